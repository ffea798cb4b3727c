/-
  The law's Net: a destination's numbers.
-/
import Derived.Test.YtdmilbfdiebjgaaPlWa
namespace Go.Proofs.Ytdmilbfdiebjgaa
open Go.RowKit
set_option linter.unusedVariables false

/-- The destination's block is there, with its numbers; all else is as it was, but for the source. -/
structure DSt (B : Nat) (L : List Int) (wr : World) (nm : ByteArray) (g m cap : Nat) (xs : List Int) (w : World) : Prop where
  src : SrcAt B (B + 1) L w
  turned : Turned (B + 1) wr w
  blk : Blk w (wr.heap.size + 1) 62 #[.string nm, .slice (some ⟨g, 0, none⟩) m cap]
  own : w.ownsRow wr.heap.size 3 1 (.slice (some ⟨g, 0, none⟩) m cap) m (xs.map (Value.int .i64))
  ok : SrcOk L
  lo : B + 1 < wr.heap.size

/-- A destination's numbers, and what is left. -/
def origG (n o : Nat) (L : List Int) : List Int × List Int := if nx L 3 = 0 ∧ o + 1 < n then ([(o : Int), (o : Int) + 1 + (nx L.tail (n - o - 1) : Int)], L.tail.tail) else ([(o : Int)], L.tail)
theorem destG_is (n : Nat) (ds : List PDest) (L : List Int) : destG n (ds, L) = (ds ++ [⟨dnG ds.length, (origG n (nx L n) L.tail).1⟩], (origG n (nx L n) L.tail).2) := by
  unfold destG origG
  dsimp only
  by_cases h : nx L.tail 3 = 0 ∧ nx L n + 1 < n
  · rw [if_pos h, if_pos h]; rfl
  · rw [if_neg h, if_neg h]

theorem next_d {B : Nat} {L : List Int} {wr : World} {nm : ByteArray} {g m cap : Nat} {xs : List Int} {w : World} (n : Int) (k v : Nat) (L' : List Int) (HV : Hid (nx L k = v)) (HT : Hid (L.tail = L')) (h : DSt B L wr nm g m cap xs w) (hn : n = (k : Int)) (h0 : 0 < k) (hm : k ≤ 4096) :
    Calls Try.prog 39 #[.pointer (some ⟨B + 1, 0, none⟩), .int .i64 n] w fun e w' => e = .returned (.int .i64 (v : Int)) ∧ DSt B L' wr nm g m cap xs w' :=
  (next_src n k v L' HV HT h.src h.ok.1 h.ok.2 (by omega) hn h0 hm).mono fun _ _ ⟨he, hs, ht⟩ => ⟨he, hs, h.turned.trans ht, ht.blk h.blk (by have := h.lo; omega), ht.own h.own (by have := own_ge h.own; have := h.lo; simp [Value.ownBlock]; omega), by rw [← HT.out]; exact h.ok.tail, h.lo⟩

theorem DSt.push {B : Nat} {L : List Int} {wr : World} {nm : ByteArray} {g m cap : Nat} {xs : List Int} {wz w6 : World} (h : DSt B L wr nm g m cap xs wz) (ob : Obj) {g2 m2 cap2 : Nat} {ys : List Int} (ho : w6.ownsRow wr.heap.size 3 1 (.slice (some ⟨g2, 0, none⟩) m2 cap2) m2 (ys.map (Value.int .i64))) (hg : (wz.alloc ob).grownBy w6 (Value.slice (some ⟨g, 0, none⟩) m cap).ownBlock) :
    DSt B L wr nm g2 m2 cap2 ys (w6.setCell ⟨wr.heap.size + 1, 1, none⟩ (.slice (some ⟨g2, 0, none⟩) m2 cap2)) := by
  have hge := own_ge h.own
  have hsz := h.turned.grown.size
  have hlo := h.lo
  have hdb6 := (h.blk.alloc ob).grown hg (fun e1 => own_blk_ne h.own h.blk (by decide) e1.symm)
  exact ⟨((h.src.up (by omega) (below_new wz ob)).far hg (by simp; omega) (fun g' hg' => by simp [Value.ownBlock] at hg'; omega)).setFar (p := ⟨wr.heap.size + 1, 1, none⟩) (by show B + 1 ≠ wr.heap.size + 1; omega) (by show B ≤ wr.heap.size + 1; omega) _,
    ((h.turned.up (below_new wz ob)).grownNew hg (fun g' hg' => by simp [Value.ownBlock] at hg'; omega)).setNew (p := ⟨wr.heap.size + 1, 1, none⟩) (by show wr.heap.size ≤ wr.heap.size + 1; omega) _, hdb6.set_ 1 _, own_set ho hdb6 (by decide) 1 _, h.ok, h.lo⟩

set_option maxHeartbeats 4000000 in
set_option maxRecDepth 100000 in
theorem net_p39 (w wr wy : World) (L1 : List Int) (v4 o : Nat) (bv4 : v4 < 6) (bo : o < 2 + v4) (nm : ByteArray) (g cap : Nat) (xs : List Int)
    (hst : DSt w.heap.size L1 wr nm g 1 cap xs wy)
    (K : Act → World → Prop) (c14 : Value) (u0 u1 u5 u7 u8 u9 u10 u11 u12 u13 u17 u18 u19 u20 u21 u22 u23 u24 u25 u26 u27 u28 u29 u30 u31 u32 u33 u34 u35 u36 u37 u38 u39 u40 u41 u42 u43 u44 u45 u46 u47 u48 u49 u50 u51 u52 u53 u54 u55 u56 u57 u58 u59 u60 u61 u62 u63 u64 u65 u66 u67 u68 u69 u70 u71 u72 u73 u74 u75 u76 u77 u78 u79 u80 u81 u82 u83 u84 u85 u86 u87 u88 u89 u90 u91 u92 u93 u94 u95 u96 u97 u98 u99 u100 u101 u102 u103 u104 u105 u106 u107 u108 u109 u110 u111 u112 u113 u114 u115 u116 u117 u118 u119 u120 u121 u122 u123 u124 u125 u126 u127 u128 u129 u130 u131 u132 u133 u134 u135 u136 u137 u138 u139 u140 u141 u142 u143 u144 u145 u146 u147 u148 u149 u150 u151 u152 u153 u154 u155 u156 u157 u158 u159 u160 u161 u162 u163 u164 u165 u166 u167 u168 u169 u170 u171 u172 u173 u174 u175 u176 u177 u178 u179 u180 u181 u182 u183 u184 u185 u186 u187 u188 u189 u190 u191 u192 u193 u194 u195 u196 u197 u198 u199 u200 u201 u202 u203 u204 u205 u206 u207 u208 u209 u210 u211 u212 u213 u214 u215 u216 u217 u218 u219 u220 u221 u222 u223 u224 u225 u226 : Value)
    (hK : ∀ (wx : World) (c163 : Value) (u155 u156 u157 u158 u159 u160 u161 u162 : Value), (∃ (t : Bool) (L2 : List Int), c163 = .bool t ∧ Hid (L1.tail = L2) ∧ Hid (t = decide (nx L1 3 = 0 ∧ o + 1 < 2 + v4)) ∧ DSt w.heap.size L2 wr nm g 1 cap xs wx) → K ⟨List.toArray (u0 :: u1 :: .pointer (some ⟨w.heap.size, 0, none⟩) :: .pointer (some ⟨w.heap.size + 1, 0, none⟩) :: .pointer (some ⟨w.heap.size + 1 + 1, 0, none⟩) :: u5 :: .int .i64 (2 + (v4 : Int)) :: u7 :: u8 :: u9 :: u10 :: u11 :: u12 :: u13 :: c14 :: .pointer (some ⟨wr.heap.size + 1, 0, none⟩) :: .int .i64 (o : Int) :: u17 :: u18 :: u19 :: u20 :: u21 :: u22 :: u23 :: u24 :: u25 :: u26 :: u27 :: u28 :: u29 :: u30 :: u31 :: u32 :: u33 :: u34 :: u35 :: u36 :: u37 :: u38 :: u39 :: u40 :: u41 :: u42 :: u43 :: u44 :: u45 :: u46 :: u47 :: u48 :: u49 :: u50 :: u51 :: u52 :: u53 :: u54 :: u55 :: u56 :: u57 :: u58 :: u59 :: u60 :: u61 :: u62 :: u63 :: u64 :: u65 :: u66 :: u67 :: u68 :: u69 :: u70 :: u71 :: u72 :: u73 :: u74 :: u75 :: u76 :: u77 :: u78 :: u79 :: u80 :: u81 :: u82 :: u83 :: u84 :: u85 :: u86 :: u87 :: u88 :: u89 :: u90 :: u91 :: u92 :: u93 :: u94 :: u95 :: u96 :: u97 :: u98 :: u99 :: u100 :: u101 :: u102 :: u103 :: u104 :: u105 :: u106 :: u107 :: u108 :: u109 :: u110 :: u111 :: u112 :: u113 :: u114 :: u115 :: u116 :: u117 :: u118 :: u119 :: u120 :: u121 :: u122 :: u123 :: u124 :: u125 :: u126 :: u127 :: u128 :: u129 :: u130 :: u131 :: u132 :: u133 :: u134 :: u135 :: u136 :: u137 :: u138 :: u139 :: u140 :: u141 :: u142 :: u143 :: u144 :: u145 :: u146 :: u147 :: u148 :: u149 :: u150 :: u151 :: u152 :: u153 :: u154 :: u155 :: u156 :: u157 :: u158 :: u159 :: u160 :: u161 :: u162 :: c163 :: u164 :: u165 :: u166 :: u167 :: u168 :: u169 :: u170 :: u171 :: u172 :: u173 :: u174 :: u175 :: u176 :: u177 :: u178 :: u179 :: u180 :: u181 :: u182 :: u183 :: u184 :: u185 :: u186 :: u187 :: u188 :: u189 :: u190 :: u191 :: u192 :: u193 :: u194 :: u195 :: u196 :: u197 :: u198 :: u199 :: u200 :: u201 :: u202 :: u203 :: u204 :: u205 :: u206 :: u207 :: u208 :: u209 :: u210 :: u211 :: u212 :: u213 :: u214 :: u215 :: u216 :: u217 :: u218 :: u219 :: u220 :: u221 :: u222 :: u223 :: u224 :: u225 :: u226 :: []), []⟩ wx) :
    Code.wp Try.prog (netC [true, true, true, true, true, true, true, true, true, true, true, true, false, true, false, false, true, false, false, true, true, true, false, false]) (Exit.then K NoExit) ⟨List.toArray (u0 :: u1 :: .pointer (some ⟨w.heap.size, 0, none⟩) :: .pointer (some ⟨w.heap.size + 1, 0, none⟩) :: .pointer (some ⟨w.heap.size + 1 + 1, 0, none⟩) :: u5 :: .int .i64 (2 + (v4 : Int)) :: u7 :: u8 :: u9 :: u10 :: u11 :: u12 :: u13 :: c14 :: .pointer (some ⟨wr.heap.size + 1, 0, none⟩) :: .int .i64 (o : Int) :: u17 :: u18 :: u19 :: u20 :: u21 :: u22 :: u23 :: u24 :: u25 :: u26 :: u27 :: u28 :: u29 :: u30 :: u31 :: u32 :: u33 :: u34 :: u35 :: u36 :: u37 :: u38 :: u39 :: u40 :: u41 :: u42 :: u43 :: u44 :: u45 :: u46 :: u47 :: u48 :: u49 :: u50 :: u51 :: u52 :: u53 :: u54 :: u55 :: u56 :: u57 :: u58 :: u59 :: u60 :: u61 :: u62 :: u63 :: u64 :: u65 :: u66 :: u67 :: u68 :: u69 :: u70 :: u71 :: u72 :: u73 :: u74 :: u75 :: u76 :: u77 :: u78 :: u79 :: u80 :: u81 :: u82 :: u83 :: u84 :: u85 :: u86 :: u87 :: u88 :: u89 :: u90 :: u91 :: u92 :: u93 :: u94 :: u95 :: u96 :: u97 :: u98 :: u99 :: u100 :: u101 :: u102 :: u103 :: u104 :: u105 :: u106 :: u107 :: u108 :: u109 :: u110 :: u111 :: u112 :: u113 :: u114 :: u115 :: u116 :: u117 :: u118 :: u119 :: u120 :: u121 :: u122 :: u123 :: u124 :: u125 :: u126 :: u127 :: u128 :: u129 :: u130 :: u131 :: u132 :: u133 :: u134 :: u135 :: u136 :: u137 :: u138 :: u139 :: u140 :: u141 :: u142 :: u143 :: u144 :: u145 :: u146 :: u147 :: u148 :: u149 :: u150 :: u151 :: u152 :: u153 :: u154 :: u155 :: u156 :: u157 :: u158 :: u159 :: u160 :: u161 :: u162 :: u163 :: u164 :: u165 :: u166 :: u167 :: u168 :: u169 :: u170 :: u171 :: u172 :: u173 :: u174 :: u175 :: u176 :: u177 :: u178 :: u179 :: u180 :: u181 :: u182 :: u183 :: u184 :: u185 :: u186 :: u187 :: u188 :: u189 :: u190 :: u191 :: u192 :: u193 :: u194 :: u195 :: u196 :: u197 :: u198 :: u199 :: u200 :: u201 :: u202 :: u203 :: u204 :: u205 :: u206 :: u207 :: u208 :: u209 :: u210 :: u211 :: u212 :: u213 :: u214 :: u215 :: u216 :: u217 :: u218 :: u219 :: u220 :: u221 :: u222 :: u223 :: u224 :: u225 :: u226 :: []), []⟩ wy := by
  obtain ⟨z, HZ, bz⟩ := ex_nx L1 3 (by omega)
  obtain ⟨L2, HT2⟩ := ex_tail L1
  conv => arg 2; whnf
  by_cases hz : z = 0
  · subst hz
    by_cases ho : o + 1 < 2 + v4
    · have ho1 : (o : Int) + 1 < 2 + (v4 : Int) := by omega
      have HD : Hid (true = decide (nx L1 3 = 0 ∧ o + 1 < 2 + v4)) := Lib.hid (by rw [HZ.out]; simp [ho])
      clear ho
      go_wp2_with ((go_at_call 39; (with_reducible refine (next_d 3 3 0 L2 HZ HT2 hst (by omega) (by omega) (by omega)).mono ?_); rintro e w1 ⟨rfl, hst1⟩))
      exact ⟨_, L2, rfl, HT2, HD, hst1⟩
    · have ho1 : ¬ (o : Int) + 1 < 2 + (v4 : Int) := by omega
      have ho2 : decide ((o : Int) + 1 < 2 + (v4 : Int)) = false := by simp; omega
      have HD : Hid (false = decide (nx L1 3 = 0 ∧ o + 1 < 2 + v4)) := Lib.hid (by rw [HZ.out]; simp [ho])
      clear ho
      go_wp2_with ((go_at_call 39; (with_reducible refine (next_d 3 3 0 L2 HZ HT2 hst (by omega) (by omega) (by omega)).mono ?_); rintro e w1 ⟨rfl, hst1⟩))
      exact ⟨_, L2, rfl, HT2, HD, hst1⟩
  · have hz1 : ((z : Int) == 0) = false := by simp; omega
    have HD : Hid (false = decide (nx L1 3 = 0 ∧ o + 1 < 2 + v4)) := Lib.hid (by rw [HZ.out]; simp [hz])
    clear hz
    go_wp2_with ((go_at_call 39; (with_reducible refine (next_d 3 3 z L2 HZ HT2 hst (by omega) (by omega) (by omega)).mono ?_); rintro e w1 ⟨rfl, hst1⟩))
    exact ⟨_, L2, rfl, HT2, HD, hst1⟩

set_option maxHeartbeats 4000000 in
set_option maxRecDepth 100000 in
theorem net_p40 (w wr wy : World) (L1 L2 : List Int) (v4 o : Nat) (bv4 : v4 < 6) (bo : o < 2 + v4) (nm : ByteArray) (g cap : Nat) (t : Bool) (HT2 : Hid (L1.tail = L2)) (HD : Hid (t = decide (nx L1 3 = 0 ∧ o + 1 < 2 + v4)))
    (hst : DSt w.heap.size L2 wr nm g 1 cap [(o : Int)] wy)
    (K : Act → World → Prop) (c14 : Value) (u0 u1 u5 u7 u8 u9 u10 u11 u12 u13 u17 u18 u19 u20 u21 u22 u23 u24 u25 u26 u27 u28 u29 u30 u31 u32 u33 u34 u35 u36 u37 u38 u39 u40 u41 u42 u43 u44 u45 u46 u47 u48 u49 u50 u51 u52 u53 u54 u55 u56 u57 u58 u59 u60 u61 u62 u63 u64 u65 u66 u67 u68 u69 u70 u71 u72 u73 u74 u75 u76 u77 u78 u79 u80 u81 u82 u83 u84 u85 u86 u87 u88 u89 u90 u91 u92 u93 u94 u95 u96 u97 u98 u99 u100 u101 u102 u103 u104 u105 u106 u107 u108 u109 u110 u111 u112 u113 u114 u115 u116 u117 u118 u119 u120 u121 u122 u123 u124 u125 u126 u127 u128 u129 u130 u131 u132 u133 u134 u135 u136 u137 u138 u139 u140 u141 u142 u143 u144 u145 u146 u147 u148 u149 u150 u151 u152 u153 u154 u155 u156 u157 u158 u159 u160 u161 u162 u164 u165 u166 u167 u168 u169 u170 u171 u172 u173 u174 u175 u176 u177 u178 u179 u180 u181 u182 u183 u184 u185 u186 u187 u188 u189 u190 u191 u192 u193 u194 u195 u196 u197 u198 u199 u200 u201 u202 u203 u204 u205 u206 u207 u208 u209 u210 u211 u212 u213 u214 u215 u216 u217 u218 u219 u220 u221 u222 u223 u224 u225 u226 : Value)
    (hK : ∀ (wx : World) (u163 u164 u165 u166 u167 u168 u169 u170 u171 u172 u173 u174 u175 u176 u177 : Value), (∃ (g' m' cap' : Nat), DSt w.heap.size (origG (2 + v4) o L1).2 wr nm g' m' cap' (origG (2 + v4) o L1).1 wx) → K ⟨List.toArray (u0 :: u1 :: .pointer (some ⟨w.heap.size, 0, none⟩) :: .pointer (some ⟨w.heap.size + 1, 0, none⟩) :: .pointer (some ⟨w.heap.size + 1 + 1, 0, none⟩) :: u5 :: .int .i64 (2 + (v4 : Int)) :: u7 :: u8 :: u9 :: u10 :: u11 :: u12 :: u13 :: c14 :: .pointer (some ⟨wr.heap.size + 1, 0, none⟩) :: .int .i64 (o : Int) :: u17 :: u18 :: u19 :: u20 :: u21 :: u22 :: u23 :: u24 :: u25 :: u26 :: u27 :: u28 :: u29 :: u30 :: u31 :: u32 :: u33 :: u34 :: u35 :: u36 :: u37 :: u38 :: u39 :: u40 :: u41 :: u42 :: u43 :: u44 :: u45 :: u46 :: u47 :: u48 :: u49 :: u50 :: u51 :: u52 :: u53 :: u54 :: u55 :: u56 :: u57 :: u58 :: u59 :: u60 :: u61 :: u62 :: u63 :: u64 :: u65 :: u66 :: u67 :: u68 :: u69 :: u70 :: u71 :: u72 :: u73 :: u74 :: u75 :: u76 :: u77 :: u78 :: u79 :: u80 :: u81 :: u82 :: u83 :: u84 :: u85 :: u86 :: u87 :: u88 :: u89 :: u90 :: u91 :: u92 :: u93 :: u94 :: u95 :: u96 :: u97 :: u98 :: u99 :: u100 :: u101 :: u102 :: u103 :: u104 :: u105 :: u106 :: u107 :: u108 :: u109 :: u110 :: u111 :: u112 :: u113 :: u114 :: u115 :: u116 :: u117 :: u118 :: u119 :: u120 :: u121 :: u122 :: u123 :: u124 :: u125 :: u126 :: u127 :: u128 :: u129 :: u130 :: u131 :: u132 :: u133 :: u134 :: u135 :: u136 :: u137 :: u138 :: u139 :: u140 :: u141 :: u142 :: u143 :: u144 :: u145 :: u146 :: u147 :: u148 :: u149 :: u150 :: u151 :: u152 :: u153 :: u154 :: u155 :: u156 :: u157 :: u158 :: u159 :: u160 :: u161 :: u162 :: u163 :: u164 :: u165 :: u166 :: u167 :: u168 :: u169 :: u170 :: u171 :: u172 :: u173 :: u174 :: u175 :: u176 :: u177 :: u178 :: u179 :: u180 :: u181 :: u182 :: u183 :: u184 :: u185 :: u186 :: u187 :: u188 :: u189 :: u190 :: u191 :: u192 :: u193 :: u194 :: u195 :: u196 :: u197 :: u198 :: u199 :: u200 :: u201 :: u202 :: u203 :: u204 :: u205 :: u206 :: u207 :: u208 :: u209 :: u210 :: u211 :: u212 :: u213 :: u214 :: u215 :: u216 :: u217 :: u218 :: u219 :: u220 :: u221 :: u222 :: u223 :: u224 :: u225 :: u226 :: []), []⟩ wx) :
    Code.wp Try.prog (netC [true, true, true, true, true, true, true, true, true, true, true, true, false, true, false, false, true, false, false, true, true, true, false, true]) (Exit.then K NoExit) ⟨List.toArray (u0 :: u1 :: .pointer (some ⟨w.heap.size, 0, none⟩) :: .pointer (some ⟨w.heap.size + 1, 0, none⟩) :: .pointer (some ⟨w.heap.size + 1 + 1, 0, none⟩) :: u5 :: .int .i64 (2 + (v4 : Int)) :: u7 :: u8 :: u9 :: u10 :: u11 :: u12 :: u13 :: c14 :: .pointer (some ⟨wr.heap.size + 1, 0, none⟩) :: .int .i64 (o : Int) :: u17 :: u18 :: u19 :: u20 :: u21 :: u22 :: u23 :: u24 :: u25 :: u26 :: u27 :: u28 :: u29 :: u30 :: u31 :: u32 :: u33 :: u34 :: u35 :: u36 :: u37 :: u38 :: u39 :: u40 :: u41 :: u42 :: u43 :: u44 :: u45 :: u46 :: u47 :: u48 :: u49 :: u50 :: u51 :: u52 :: u53 :: u54 :: u55 :: u56 :: u57 :: u58 :: u59 :: u60 :: u61 :: u62 :: u63 :: u64 :: u65 :: u66 :: u67 :: u68 :: u69 :: u70 :: u71 :: u72 :: u73 :: u74 :: u75 :: u76 :: u77 :: u78 :: u79 :: u80 :: u81 :: u82 :: u83 :: u84 :: u85 :: u86 :: u87 :: u88 :: u89 :: u90 :: u91 :: u92 :: u93 :: u94 :: u95 :: u96 :: u97 :: u98 :: u99 :: u100 :: u101 :: u102 :: u103 :: u104 :: u105 :: u106 :: u107 :: u108 :: u109 :: u110 :: u111 :: u112 :: u113 :: u114 :: u115 :: u116 :: u117 :: u118 :: u119 :: u120 :: u121 :: u122 :: u123 :: u124 :: u125 :: u126 :: u127 :: u128 :: u129 :: u130 :: u131 :: u132 :: u133 :: u134 :: u135 :: u136 :: u137 :: u138 :: u139 :: u140 :: u141 :: u142 :: u143 :: u144 :: u145 :: u146 :: u147 :: u148 :: u149 :: u150 :: u151 :: u152 :: u153 :: u154 :: u155 :: u156 :: u157 :: u158 :: u159 :: u160 :: u161 :: u162 :: .bool t :: u164 :: u165 :: u166 :: u167 :: u168 :: u169 :: u170 :: u171 :: u172 :: u173 :: u174 :: u175 :: u176 :: u177 :: u178 :: u179 :: u180 :: u181 :: u182 :: u183 :: u184 :: u185 :: u186 :: u187 :: u188 :: u189 :: u190 :: u191 :: u192 :: u193 :: u194 :: u195 :: u196 :: u197 :: u198 :: u199 :: u200 :: u201 :: u202 :: u203 :: u204 :: u205 :: u206 :: u207 :: u208 :: u209 :: u210 :: u211 :: u212 :: u213 :: u214 :: u215 :: u216 :: u217 :: u218 :: u219 :: u220 :: u221 :: u222 :: u223 :: u224 :: u225 :: u226 :: []), []⟩ wy := by
  cases t with
  | false =>
    have hno : ¬ (nx L1 3 = 0 ∧ o + 1 < 2 + v4) := by have := HD.out; simpa using this.symm
    have hg : origG (2 + v4) o L1 = ([(o : Int)], L2) := by unfold origG; rw [if_neg hno, HT2.out]
    rw [hg] at hK
    clear hg hno
    conv => arg 2; whnf
    go_wp2_with fail
    exact ⟨_, _, _, hst⟩
  | true =>
    have hyes : nx L1 3 = 0 ∧ o + 1 < 2 + v4 := by have := HD.out; simpa using this.symm
    obtain ⟨x2, HX2, bx2⟩ := ex_nx L2 (2 + v4 - o - 1) (by omega)
    obtain ⟨L3, HT3⟩ := ex_tail L2
    have hg : origG (2 + v4) o L1 = ([(o : Int), (o : Int) + 1 + (x2 : Int)], L3) := by unfold origG; rw [if_pos hyes, HT2.out, HT3.out, HX2.out]
    rw [hg] at hK
    have ho1 : (o : Int) + 1 < 2 + (v4 : Int) := by omega
    clear hg hyes HD
    obtain ⟨iI, hiI, zI0, zI1, zI2⟩ := info_parts numInfo
    have c4 := hst.blk.cell 1
    have hsz := hst.turned.grown.size
    have hlo := hst.lo
    have hD : DSt w.heap.size L2 wr nm g 1 cap [(o : Int)] wy.drew := ⟨hst.src.up (by omega) ((Below.refl _ wy).drew), hst.turned.up ((Below.refl _ wy).drew), hst.blk.up ((Below.refl _ wy).drew), own_below hst.own ((Below.refl _ wy).drew), hst.ok, hst.lo⟩
    have ww1 : IntKind.i64.wrap ((o : Int) + 1) = (o : Int) + 1 := IntWalk.i64_in _ (by omega)
    have ww2 : IntKind.i64.wrap (2 + (v4 : Int) - (o : Int)) = 2 + (v4 : Int) - (o : Int) := IntWalk.i64_in _ (by omega)
    have ww3 : IntKind.i64.wrap (2 + (v4 : Int) - (o : Int) - 1) = 2 + (v4 : Int) - (o : Int) - 1 := IntWalk.i64_in _ (by omega)
    have ww4 : IntKind.i64.wrap ((o : Int) + 1 + (x2 : Int)) = (o : Int) + 1 + (x2 : Int) := IntWalk.i64_in _ (by omega)
    have HONE : Hid (∀ u ∈ [Value.int .i64 ((o : Int) + 1 + (x2 : Int))], u.oneCell' = true) := Lib.hid (by simp [Value.oneCell'])
    have HMX : Hid (1 + 1 ≤ maxLen) := Lib.hid (by unfold maxLen; omega)
    have HBY : Hid ((1 + 1) * 8 ≤ 140737488355328) := Lib.hid (by omega)
    conv => arg 2; whnf
    go_upto_region 40 with fail
    go_region_law (first
      | (go_simp; go_at_call 39; (with_reducible refine (next_d (2 + (v4 : Int) - (o : Int) - 1) (2 + v4 - o - 1) x2 L3 HX2 HT3 hD (by omega) (by omega) (by omega)).mono ?_); rintro e wz ⟨rfl, hD5⟩; have c5 := hD5.blk.cell 1; have c5a := fun o1 => (hD5.blk.alloc o1).cell 1)
      | (refine step_append_lies _ rfl (.tmp 165) (.tmp 175) 22 rfl wr.heap.size 3 iI (.int .i64 0) 1 8 Try.underlying22 hiI zI0 zI1 zI2 rfl Nat.zero_lt_one (.slice (some ⟨g, 0, none⟩) 1 cap) 1 [.int .i64 (o : Int)] (by first | rfl | (apply rfl)) (own_alloc hD5.own _) ⟨wz.heap.size, 0, none⟩ 1 1 [.int .i64 ((o : Int) + 1 + (x2 : Int))] (by first | rfl | (apply rfl)) (by first | rfl | (apply rfl)) (World.news_of_block (cs := #[.int .i64 ((o : Int) + 1 + (x2 : Int))]) (t := 3) (fr := (0, 0)) (heap_alloc_new _ _)) HONE.out Nat.zero_lt_one HMX.out HBY.out (Nat.le_trans hD5.turned.grown.size (below_new _ _).size) (wz.heap.size + 1) (World.size_alloc _ _) ?_; intro g2 cap2 w6 hown6 hgrow6 _ _; have hdb6 := (hD5.blk.alloc (.cells #[.int .i64 ((o : Int) + 1 + (x2 : Int))] 3)).grown hgrow6 (fun e1 => own_blk_ne hD5.own hD5.blk (by decide) e1.symm); have c6 := hdb6.cell 1; have f6 := hdb6.frozen 1))
    all_goals go_step
    all_goals go_step
    all_goals exact ⟨_, _, _, hD5.push _ (ys := [(o : Int), (o : Int) + 1 + (x2 : Int)]) hown6 hgrow6⟩

set_option maxHeartbeats 4000000 in
set_option maxRecDepth 100000 in
theorem net_p41 (w wr wy : World) (L L' : List Int) (v4 o : Nat) (pr ca K0 : Int) (vn vl vd vc : Value) (ns : List PNode) (ls : List PLink) (ds : List PDest) (cs : List PCheck) (hdl : ds.length ≤ 2) (nm : ByteArray) (g m cap : Nat) (xs : List Int) (hxm : xs.length = m)
    (hst : NetSt w (w.heap.size + 1) (w.heap.size + 1 + 1) L pr ca K0 vn vl vd vc ns ls ds cs wr) (hD : DSt w.heap.size L' wr nm g m cap xs wy)
    (Q : Exit → Act → World → Prop) (c14 : Value) (u0 u1 u5 u7 u8 u9 u10 u11 u12 u13 u17 u18 u19 u20 u21 u22 u23 u24 u25 u26 u27 u28 u29 u30 u31 u32 u33 u34 u35 u36 u37 u38 u39 u40 u41 u42 u43 u44 u45 u46 u47 u48 u49 u50 u51 u52 u53 u54 u55 u56 u57 u58 u59 u60 u61 u62 u63 u64 u65 u66 u67 u68 u69 u70 u71 u72 u73 u74 u75 u76 u77 u78 u79 u80 u81 u82 u83 u84 u85 u86 u87 u88 u89 u90 u91 u92 u93 u94 u95 u96 u97 u98 u99 u100 u101 u102 u103 u104 u105 u106 u107 u108 u109 u110 u111 u112 u113 u114 u115 u116 u117 u118 u119 u120 u121 u122 u123 u124 u125 u126 u127 u128 u129 u130 u131 u132 u133 u134 u135 u136 u137 u138 u139 u140 u141 u142 u143 u144 u145 u146 u147 u148 u149 u150 u151 u152 u153 u154 u155 u156 u157 u158 u159 u160 u161 u162 u163 u164 u165 u166 u167 u168 u169 u170 u171 u172 u173 u174 u175 u176 u177 u178 u179 u180 u181 u182 u183 u184 u185 u186 u187 u188 u189 u190 u191 u192 u193 u194 u195 u196 u197 u198 u199 u200 u201 u202 u203 u204 u205 u206 u207 u208 u209 u210 u211 u212 u213 u214 u215 u216 u217 u218 u219 u220 u221 u222 u223 u224 u225 u226 : Value)
    (hK : ∀ (wx : World) (u178 u179 u180 u181 u182 u183 : Value), (∃ (vd' : Value), NetSt w (w.heap.size + 1) (w.heap.size + 1 + 1) L' pr ca K0 vn vl vd' vc ns ls (ds ++ [⟨nm, xs⟩]) cs wx ∧ SrcOk L') → Q .normal ⟨List.toArray (u0 :: u1 :: .pointer (some ⟨w.heap.size, 0, none⟩) :: .pointer (some ⟨w.heap.size + 1, 0, none⟩) :: .pointer (some ⟨w.heap.size + 1 + 1, 0, none⟩) :: u5 :: .int .i64 (2 + (v4 : Int)) :: u7 :: u8 :: u9 :: u10 :: u11 :: u12 :: u13 :: c14 :: .pointer (some ⟨wr.heap.size + 1, 0, none⟩) :: .int .i64 (o : Int) :: u17 :: u18 :: u19 :: u20 :: u21 :: u22 :: u23 :: u24 :: u25 :: u26 :: u27 :: u28 :: u29 :: u30 :: u31 :: u32 :: u33 :: u34 :: u35 :: u36 :: u37 :: u38 :: u39 :: u40 :: u41 :: u42 :: u43 :: u44 :: u45 :: u46 :: u47 :: u48 :: u49 :: u50 :: u51 :: u52 :: u53 :: u54 :: u55 :: u56 :: u57 :: u58 :: u59 :: u60 :: u61 :: u62 :: u63 :: u64 :: u65 :: u66 :: u67 :: u68 :: u69 :: u70 :: u71 :: u72 :: u73 :: u74 :: u75 :: u76 :: u77 :: u78 :: u79 :: u80 :: u81 :: u82 :: u83 :: u84 :: u85 :: u86 :: u87 :: u88 :: u89 :: u90 :: u91 :: u92 :: u93 :: u94 :: u95 :: u96 :: u97 :: u98 :: u99 :: u100 :: u101 :: u102 :: u103 :: u104 :: u105 :: u106 :: u107 :: u108 :: u109 :: u110 :: u111 :: u112 :: u113 :: u114 :: u115 :: u116 :: u117 :: u118 :: u119 :: u120 :: u121 :: u122 :: u123 :: u124 :: u125 :: u126 :: u127 :: u128 :: u129 :: u130 :: u131 :: u132 :: u133 :: u134 :: u135 :: u136 :: u137 :: u138 :: u139 :: u140 :: u141 :: u142 :: u143 :: u144 :: u145 :: u146 :: u147 :: u148 :: u149 :: u150 :: u151 :: u152 :: u153 :: u154 :: u155 :: u156 :: u157 :: u158 :: u159 :: u160 :: u161 :: u162 :: u163 :: u164 :: u165 :: u166 :: u167 :: u168 :: u169 :: u170 :: u171 :: u172 :: u173 :: u174 :: u175 :: u176 :: u177 :: u178 :: u179 :: u180 :: u181 :: u182 :: u183 :: u184 :: u185 :: u186 :: u187 :: u188 :: u189 :: u190 :: u191 :: u192 :: u193 :: u194 :: u195 :: u196 :: u197 :: u198 :: u199 :: u200 :: u201 :: u202 :: u203 :: u204 :: u205 :: u206 :: u207 :: u208 :: u209 :: u210 :: u211 :: u212 :: u213 :: u214 :: u215 :: u216 :: u217 :: u218 :: u219 :: u220 :: u221 :: u222 :: u223 :: u224 :: u225 :: u226 :: []), []⟩ wx) :
    Code.wp Try.prog (netC [true, true, true, true, true, true, true, true, true, true, true, true, false, true, false, false, true, false, false, true, true, true, true]) Q ⟨List.toArray (u0 :: u1 :: .pointer (some ⟨w.heap.size, 0, none⟩) :: .pointer (some ⟨w.heap.size + 1, 0, none⟩) :: .pointer (some ⟨w.heap.size + 1 + 1, 0, none⟩) :: u5 :: .int .i64 (2 + (v4 : Int)) :: u7 :: u8 :: u9 :: u10 :: u11 :: u12 :: u13 :: c14 :: .pointer (some ⟨wr.heap.size + 1, 0, none⟩) :: .int .i64 (o : Int) :: u17 :: u18 :: u19 :: u20 :: u21 :: u22 :: u23 :: u24 :: u25 :: u26 :: u27 :: u28 :: u29 :: u30 :: u31 :: u32 :: u33 :: u34 :: u35 :: u36 :: u37 :: u38 :: u39 :: u40 :: u41 :: u42 :: u43 :: u44 :: u45 :: u46 :: u47 :: u48 :: u49 :: u50 :: u51 :: u52 :: u53 :: u54 :: u55 :: u56 :: u57 :: u58 :: u59 :: u60 :: u61 :: u62 :: u63 :: u64 :: u65 :: u66 :: u67 :: u68 :: u69 :: u70 :: u71 :: u72 :: u73 :: u74 :: u75 :: u76 :: u77 :: u78 :: u79 :: u80 :: u81 :: u82 :: u83 :: u84 :: u85 :: u86 :: u87 :: u88 :: u89 :: u90 :: u91 :: u92 :: u93 :: u94 :: u95 :: u96 :: u97 :: u98 :: u99 :: u100 :: u101 :: u102 :: u103 :: u104 :: u105 :: u106 :: u107 :: u108 :: u109 :: u110 :: u111 :: u112 :: u113 :: u114 :: u115 :: u116 :: u117 :: u118 :: u119 :: u120 :: u121 :: u122 :: u123 :: u124 :: u125 :: u126 :: u127 :: u128 :: u129 :: u130 :: u131 :: u132 :: u133 :: u134 :: u135 :: u136 :: u137 :: u138 :: u139 :: u140 :: u141 :: u142 :: u143 :: u144 :: u145 :: u146 :: u147 :: u148 :: u149 :: u150 :: u151 :: u152 :: u153 :: u154 :: u155 :: u156 :: u157 :: u158 :: u159 :: u160 :: u161 :: u162 :: u163 :: u164 :: u165 :: u166 :: u167 :: u168 :: u169 :: u170 :: u171 :: u172 :: u173 :: u174 :: u175 :: u176 :: u177 :: u178 :: u179 :: u180 :: u181 :: u182 :: u183 :: u184 :: u185 :: u186 :: u187 :: u188 :: u189 :: u190 :: u191 :: u192 :: u193 :: u194 :: u195 :: u196 :: u197 :: u198 :: u199 :: u200 :: u201 :: u202 :: u203 :: u204 :: u205 :: u206 :: u207 :: u208 :: u209 :: u210 :: u211 :: u212 :: u213 :: u214 :: u215 :: u216 :: u217 :: u218 :: u219 :: u220 :: u221 :: u222 :: u223 :: u224 :: u225 :: u226 :: []), []⟩ wy := by
  have hstx := hst.turned hD.src hD.turned
  obtain ⟨hs, e1, e2, e3⟩ := hstx.dests
  obtain ⟨Ad, cd, rfl, hcd⟩ := own_form e2
  obtain ⟨iD, hiD, zD0, zD1, zD2⟩ := info_parts destInfo
  have q5x := hstx.blk.cell 5
  have c0x := hD.blk.cell 0
  have c1x := hD.blk.cell 1
  conv => arg 2; whnf
  go_wp2_with (at_builtin; refine wpList_append_lies _ rfl _ _ _ rfl w.heap.size 62 iD (.agg #[.string ⟨#[]⟩, .slice none 0 0]) 2 40 Try.underlying26 hiD zD0 zD1 zD2 rfl (by decide) (.slice Ad ds.length cd) ds.length _ rfl (own_alloc e2 _) ⟨wy.heap.size, 0, none⟩ 1 1 [.string nm, .slice (some ⟨g, 0, none⟩) m cap] rfl rfl (cells_new wy [.string nm, .slice (some ⟨g, 0, none⟩) m cap] 62) (by simp [Value.oneCell']) (by omega) (by unfold maxLen; omega) (by omega) (by have := hstx.lt; simp; omega) (wy.heap.size + 1) (by simp) ?_; intro g6 cap6 w6 hown6 hgrow6 _ _; have hb6 := (hstx.up (below_new _ _)).pbOf (own_alloc e2 _) (by decide) hgrow6; have q6 := hb6.cell 5; have f6 := hb6.frozen 5)
  subst hxm
  exact ⟨_, (hstx.up (below_new wy (.cells #[.string nm, .slice (some ⟨g, 0, none⟩) xs.length cap] 62))).pushDest hs e1 (own_alloc e2 _) (fun i d q h1 h2 => own_alloc (e3 i d q h1 h2) _) (x := ⟨nm, xs⟩) (own_alloc (own_base hD.own (by have := hD.lo; omega)) _) hown6 hgrow6, hD.ok⟩
end Go.Proofs.Ytdmilbfdiebjgaa
