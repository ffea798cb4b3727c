/-
  A network that may be, of small numbers; both Prints of any small network.
-/
import Derived.Test.YtdmilbfdiebjgaaDoorPlUo
namespace Go.Proofs.YtdmilbfdiebjgaaDoor
open Go.RowKit
set_option linter.unusedVariables false
set_option linter.unusedSimpArgs false

set_option maxHeartbeats 8000000 in
set_option maxRecDepth 100000 in
theorem RefPrint_good {p : PPlan} {pr ca kk : Int} {An Al Ad Ac : Option Addr} {ln cn ll cl ld cd lc cc : Nat} {w : World} (H : Hid (rightB p = true)) (hs : PSmall p) (ht : PTiny p) (h : PAt w p pr ca kk An ln Al ll Ad ld Ac lc) (hT : (textB p).length ≤ 140737488355328) :
    Calls Tryd.prog 8 #[.agg #[.int .i64 pr, .int .i64 ca, .int .i64 kk, .slice An ln cn, .slice Al ll cl, .slice Ad ld cd, .slice Ac lc cc]] w fun e w' => e = .returned (.tuple #[.string ⟨(textB p).toArray⟩, .int .i64 0]) ∧ Below w.heap.size w w' := by
  obtain ⟨cap, hcap, hcap2⟩ := ht.cap
  obtain ⟨fk, hfk, hfk2⟩ := ht.k
  rw [h.ca] at hcap
  rw [h.kk] at hfk
  subst hcap hfk
  have hbx := below_new w (.cells #[.int .i64 pr, .int .i64 (cap : Int), .int .i64 (fk : Int), .slice An ln cn, .slice Al ll cl, .slice Ad ld cd, .slice Ac lc cc] 29)
  have k0 := Blk.new w 29 #[.int .i64 pr, .int .i64 (cap : Int), .int .i64 (fk : Int), .slice An ln cn, .slice Al ll cl, .slice Ad ld cd, .slice Ac lc cc]
  have h0 := h.up hbx
  have hpp : pr = 1 ∨ pr = 2 := by
    have := H.out
    unfold rightB protoB at this
    rw [h.pr] at this
    by_cases e1 : pr = 1
    · exact .inl e1
    · by_cases e2 : pr = 2
      · exact .inr e2
      · rw [if_neg e1, if_neg e2] at this; simp at this
  have HTX := Lib.hid (show textB p = lineS (protoW pr cap) ++ (lineS (failW fk) ++ (p.nodes.flatMap (fun n => lineS (nodeW n)) ++ (p.links.flatMap (fun l => lineS (linkW p.nodes l)) ++ (p.dests.flatMap (fun d => lineS (destW p.nodes d)) ++ p.checks.flatMap (fun c => lineS (checkW p.nodes p.dests c)))))) by unfold textB; rw [h.pr, h.ca, h.kk])
  have HP := Lib.hid h
  have HSM := Lib.hid hs
  have HTI := Lib.hid ht
  have HTL := Lib.hid hT
  clear h ht hT hs
  have z1 := decS_size 20 cap
  have z2 := decS_size 20 fk
  have a1 : ¬ (9223372036854775807 < 14 + (decS 20 cap).size) := by omega
  have a2 : ¬ (9223372036854775807 < 14 + (decS 20 cap).size + 2) := by omega
  have a3 : ¬ (9223372036854775807 < 14 + (decS 20 cap).size + 2 + 9) := by omega
  have a4 : ¬ (9223372036854775807 < 14 + (decS 20 cap).size + 2 + 9 + (decS 20 fk).size) := by omega
  have a5 : ¬ (9223372036854775807 < 14 + (decS 20 cap).size + 2 + 9 + (decS 20 fk).size + 2) := by omega
  have a6 : ¬ (9223372036854775807 < 17 + 9 + (decS 20 fk).size) := by omega
  have a7 : ¬ (9223372036854775807 < 17 + 9 + (decS 20 fk).size + 2) := by omega
  have a8 : ¬ (9223372036854775807 < 26 + (decS 20 fk).size) := by omega
  have a9 : ¬ (9223372036854775807 < 26 + (decS 20 fk).size + 2) := by omega
  rcases hpp with rfl | rfl
  · have hS0 : StrIs (⟨#[112, 114, 111, 116, 111, 99, 111, 108, 32, 118, 101, 99, 116, 111, 114, 59, 10]⟩ ++ ⟨#[102, 97, 105, 108, 117, 114, 101, 115, 32]⟩ ++ decS 20 fk ++ ⟨#[59, 10]⟩) (lineS (protoW 1 (cap : Int)) ++ lineS (failW (fk : Int))) := by
      unfold StrIs lineS lineB protoW failW
      rw [← decS_decW fk (by omega)]
      simp [Lib.join_cons, Lib.joinTail]
    have HTX2 : Hid (textB p = (lineS (protoW 1 (cap : Int)) ++ lineS (failW (fk : Int))) ++ (p.nodes.flatMap (fun n => lineS (nodeW n)) ++ (p.links.flatMap (fun l => lineS (linkW p.nodes l)) ++ (p.dests.flatMap (fun d => lineS (destW p.nodes d)) ++ p.checks.flatMap (fun c => lineS (checkW p.nodes p.dests c)))))) := Lib.hid (by rw [HTX.out, List.append_assoc])
    have HS0 := Lib.hid hS0
    clear hS0
    go_enter Tryd.func8, Tryd.ntmps8
    go_upto_region 7 with (first
      | (go_at_call 24; (with_reducible refine (RefDigits_is cap (by omega) _).mono ?_); rintro e w2 ⟨rfl, hb2⟩; have k2 := k1.up hb2; have hB2 := hB1.trans (hb2.mono hB1.size); obtain ⟨f0, f1, f2, f3, f4, f5, f6⟩ := box7 k2)
      | (go_at_call 10; (with_reducible refine (RefRight_is true H HSM.out h0).mono ?_); rintro e w1 ⟨rfl, hb1⟩; have k1 := k0.up hb1; have hB1 := hbx.trans (hb1.mono hbx.size); obtain ⟨d0, d1, d2, d3, d4, d5, d6⟩ := box7 k1))
    have k9 := k1
    have hB9 := hB1
    repeat (first
      | exact print_nodes HP HSM HTI _ hB3 w.heap.size k3 _ _ HS0.out HTX2 HTL _ _ _ _ _ _ _ _ _ _ _ _ _ _ _ _ _ _ _ _ _ _ _ _ _ _ _ _ _ _ _ _ _ _ _ _ _ _ _ _ _ _ _ _ _ _ _ _ _ _ _ _ _ _ _ _ _ _ _ _ _ _ _ _ _ _ _ _ _ _ _ _ _ _ _ _ _ _ _ _ _ _ _ _ _ _ _ _ _ _ _ _ _ _ _ _ _ _ _ _ _ _ _ _ _ _ _ _ _ _ _ _ _ _ _ _ _ _ _ _ _ _ _ _ _ _ _ _ _ _ _ _ _ _ _ _ _ _ _ _ _ _ _ _ _ _ _ _ _ _ _ _ _ _ _ _ _
      | (go_at_call 24; (with_reducible refine (RefDigits_is fk (by omega) _).mono ?_); rintro e w3 ⟨rfl, hb3⟩; have k3 := k9.up hb3; have hB3 := hB9.trans (hb3.mono hB9.size); dsimp only)
      | go_values | go_skip | go_guarded | go_step | go_upon)
    done
  · have hS0 : StrIs (⟨#[112, 114, 111, 116, 111, 99, 111, 108, 32, 112, 97, 116, 104, 32]⟩ ++ decS 20 cap ++ ⟨#[59, 10]⟩ ++ ⟨#[102, 97, 105, 108, 117, 114, 101, 115, 32]⟩ ++ decS 20 fk ++ ⟨#[59, 10]⟩) (lineS (protoW 2 (cap : Int)) ++ lineS (failW (fk : Int))) := by
      unfold StrIs lineS lineB protoW failW
      rw [← decS_decW fk (by omega), ← decS_decW cap (by omega)]
      simp [Lib.join_cons, Lib.joinTail]
    have HTX2 : Hid (textB p = (lineS (protoW 2 (cap : Int)) ++ lineS (failW (fk : Int))) ++ (p.nodes.flatMap (fun n => lineS (nodeW n)) ++ (p.links.flatMap (fun l => lineS (linkW p.nodes l)) ++ (p.dests.flatMap (fun d => lineS (destW p.nodes d)) ++ p.checks.flatMap (fun c => lineS (checkW p.nodes p.dests c)))))) := Lib.hid (by rw [HTX.out, List.append_assoc])
    have HS0 := Lib.hid hS0
    clear hS0
    go_enter Tryd.func8, Tryd.ntmps8
    go_upto_region 7 with (first
      | (go_at_call 24; (with_reducible refine (RefDigits_is cap (by omega) _).mono ?_); rintro e w2 ⟨rfl, hb2⟩; have k2 := k1.up hb2; have hB2 := hB1.trans (hb2.mono hB1.size); obtain ⟨f0, f1, f2, f3, f4, f5, f6⟩ := box7 k2)
      | (go_at_call 10; (with_reducible refine (RefRight_is true H HSM.out h0).mono ?_); rintro e w1 ⟨rfl, hb1⟩; have k1 := k0.up hb1; have hB1 := hbx.trans (hb1.mono hbx.size); obtain ⟨d0, d1, d2, d3, d4, d5, d6⟩ := box7 k1))
    have k9 := k2
    have hB9 := hB2
    repeat (first
      | exact print_nodes HP HSM HTI _ hB3 w.heap.size k3 _ _ HS0.out HTX2 HTL _ _ _ _ _ _ _ _ _ _ _ _ _ _ _ _ _ _ _ _ _ _ _ _ _ _ _ _ _ _ _ _ _ _ _ _ _ _ _ _ _ _ _ _ _ _ _ _ _ _ _ _ _ _ _ _ _ _ _ _ _ _ _ _ _ _ _ _ _ _ _ _ _ _ _ _ _ _ _ _ _ _ _ _ _ _ _ _ _ _ _ _ _ _ _ _ _ _ _ _ _ _ _ _ _ _ _ _ _ _ _ _ _ _ _ _ _ _ _ _ _ _ _ _ _ _ _ _ _ _ _ _ _ _ _ _ _ _ _ _ _ _ _ _ _ _ _ _ _ _ _ _ _ _ _ _ _
      | (go_at_call 24; (with_reducible refine (RefDigits_is fk (by omega) _).mono ?_); rintro e w3 ⟨rfl, hb3⟩; have k3 := k9.up hb3; have hB3 := hB9.trans (hb3.mono hB9.size); dsimp only)
      | go_values | go_skip | go_guarded | go_step | go_upon)
    done
end Go.Proofs.YtdmilbfdiebjgaaDoor
namespace Go.Proofs.YtdmilbfdiebjgaaDoor
open Go.RowKit
set_option linter.unusedVariables false
set_option linter.unusedSimpArgs false

theorem within_is {n a b : Int} (h : withinB n a b = true) : a ≤ n ∧ n ≤ b := by
  unfold withinB at h; simpa using h
theorem place_is {n : Int} {m : Nat} (h : placeB n m = true) : 0 ≤ n ∧ n < m := by
  unfold placeB at h; simpa using h
theorem origF_in : ∀ (m : Nat) (l : List Int) (least : Int), 0 ≤ least → origF m l least = true → ∀ a ∈ l, 0 ≤ a ∧ a < m
  | _, [], _, _, _, a, h => by cases h
  | m, x :: r, least, h0, h, a, ha => by
    unfold origF at h
    rw [Bool.and_eq_true] at h
    obtain ⟨h1, h2⟩ := h
    have h3 := within_is h1
    rcases List.mem_cons.1 ha with e | e
    · rw [e]; omega
    · exact origF_in m r (x + 1) (by omega) h2 a e
theorem right_tiny {p : PPlan} (h : rightB p = true) (hn : ∀ n ∈ p.nodes, n.num < 100 ∨ 65535 < n.num) (hc : ∀ c ∈ p.checks, c.limit < 100 ∨ 65535 < c.limit) : PTiny p := by
  unfold rightB at h
  simp only [Bool.and_eq_true] at h
  obtain ⟨h1, h2, h3, h4, h5, h6⟩ := h
  unfold nodesB at h3
  unfold linksB at h4
  unfold destsB at h5
  unfold checksB at h6
  rw [Bool.and_eq_true] at h3 h4 h5 h6
  have n0 := within_is h3.1
  have k0 := within_is h2
  have l0 : p.links.length ≤ 16 := by simpa using h4.1
  refine ⟨?_, ⟨p.k.toNat, by omega, by omega⟩, fun n hm => ?_, fun l hm => ?_, fun d hm a ha => ?_, fun c hm => ?_⟩
  · unfold protoB at h1
    by_cases e1 : p.proto = 1
    · rw [if_pos e1] at h1
      exact ⟨0, by simpa using h1, by omega⟩
    · rw [if_neg e1] at h1
      by_cases e2 : p.proto = 2
      · rw [if_pos e2] at h1
        have := within_is h1
        exact ⟨p.cap.toNat, by omega, by omega⟩
      · rw [if_neg e2] at h1; cases h1
  · obtain ⟨i, hi⟩ := List.getElem?_of_mem hm
    have := (allF_iff _ _ _).1 h3.2 i n hi
    unfold nodeOk at this
    simp only [Bool.and_eq_true] at this
    have h9 := within_is this.2.2
    rcases hn n hm with h | h
    · exact ⟨n.num.toNat, by omega, by omega⟩
    · omega
  · obtain ⟨i, hi⟩ := List.getElem?_of_mem hm
    have := (allF_iff _ _ _).1 h4.2 i l hi
    unfold linkOk at this
    simp only [Bool.and_eq_true] at this
    have a1 := place_is this.1
    have a2 := within_is this.2.1
    have a3 := within_is this.2.2.1
    exact ⟨l.a.toNat, l.b.toNat, l.cost.toNat, by omega, by omega, by omega, by omega, by omega, by omega⟩
  · obtain ⟨i, hi⟩ := List.getElem?_of_mem hm
    have := (allF_iff _ _ _).1 h5.2 i d hi
    unfold destOk origB at this
    simp only [Bool.and_eq_true] at this
    have := origF_in _ _ 0 (by omega) this.2.2.2.1 a ha
    exact ⟨a.toNat, by omega, by omega⟩
  · obtain ⟨i, hi⟩ := List.getElem?_of_mem hm
    have := (allF_iff _ _ _).1 h6.2 i c hi
    unfold checkB at this
    by_cases hk : c.kind = 1 ∨ c.kind = 2 ∨ c.kind = 3 ∨ c.kind = 4
    · rw [if_pos hk] at this
      simp only [Bool.and_eq_true] at this
      have a1 := place_is this.1
      have a2 := place_is this.2.1
      have a3 := within_is this.2.2.1
      have a4 := within_is this.2.2.2
      have a5 : limB c.kind ≤ 65535 := by unfold limB; split <;> omega
      have a6 : othB c.kind p.nodes.length ≤ (p.nodes.length : Int) - 1 := by unfold othB; split <;> omega
      have a7 := hc c hm
      exact ⟨hk, c.node.toNat, c.dest.toNat, c.limit.toNat, c.other.toNat, by omega, by omega, by omega, by omega, by omega, by omega, by omega, by omega⟩
    · rw [if_neg hk] at this; cases this
/-- What Print tells of a network. -/
def printS (p : PPlan) : ByteArray := if rightB p = true then ⟨(textB p).toArray⟩ else ⟨#[]⟩
def printE (p : PPlan) : Int := if rightB p = true then 0 else 1
/-- A network at hand: small; of small numbers if it may be. -/
structure PFine (p : PPlan) : Prop where
  small : PSmall p
  tiny : rightB p = true → PTiny p
section
variable {p : PPlan} {pr ca kk : Int} {An Al Ad Ac : Option Addr} {ln cn ll cl ld cd lc cc : Nat} {w : World}
theorem Print_w (s : ByteArray) (e : Int) (hS : Hid (printS p = s)) (hE : Hid (printE p = e)) (hf : PFine p) (h : PAt w p pr ca kk An ln Al ll Ad ld Ac lc) :
    Calls Tryd.prog 7 #[.agg #[.int .i64 pr, .int .i64 ca, .int .i64 kk, .slice An ln cn, .slice Al ll cl, .slice Ad ld cd, .slice Ac lc cc]] w fun e' w' => e' = .returned (.tuple #[.string s, .int .i64 e]) ∧ Below w.heap.size w w' := by
  rw [← hS.out, ← hE.out]
  unfold printS printE
  cases hr : rightB p
  · exact Print_bad (Lib.hid hr) hf.small h
  · exact Print_good (Lib.hid hr) hf.small (hf.tiny hr) h (text_le hf.small (hf.tiny hr))
theorem RefPrint_w (s : ByteArray) (e : Int) (hS : Hid (printS p = s)) (hE : Hid (printE p = e)) (hf : PFine p) (h : PAt w p pr ca kk An ln Al ll Ad ld Ac lc) :
    Calls Tryd.prog 8 #[.agg #[.int .i64 pr, .int .i64 ca, .int .i64 kk, .slice An ln cn, .slice Al ll cl, .slice Ad ld cd, .slice Ac lc cc]] w fun e' w' => e' = .returned (.tuple #[.string s, .int .i64 e]) ∧ Below w.heap.size w w' := by
  rw [← hS.out, ← hE.out]
  unfold printS printE
  cases hr : rightB p
  · exact RefPrint_bad (Lib.hid hr) hf.small h
  · exact RefPrint_good (Lib.hid hr) hf.small (hf.tiny hr) h (text_le hf.small (hf.tiny hr))
end
/-! ### Networks that Net makes, with one thing changed -/
theorem NetOk.fine {p : PPlan} (h : NetOk p) : PFine p := ⟨h.small, fun _ => h.tiny⟩
theorem tiny_nums {p : PPlan} (h : PTiny p) : ∀ n ∈ p.nodes, n.num < 100 ∨ 65535 < n.num := fun n hm => by
  obtain ⟨i, e, hi⟩ := h.nodes n hm; omega
theorem tiny_limits {p : PPlan} (h : PTiny p) : ∀ c ∈ p.checks, c.limit < 100 ∨ 65535 < c.limit := fun c hm => by
  obtain ⟨_, n, d, li, o, _, _, e, _, _, _, _, hl⟩ := h.checks c hm; omega
theorem fine_head {p : PPlan} (h : NetOk p) (pr ca k : Int) : PFine { p with proto := pr, cap := ca, k := k } :=
  ⟨⟨h.small.nodes, h.small.dests, h.small.ln, h.small.ll, h.small.ld, h.small.lc⟩, fun hr => right_tiny hr (tiny_nums (p := p) h.tiny) (tiny_limits (p := p) h.tiny)⟩
theorem fine_node {p : PPlan} (h : NetOk p) (i : Nat) (nm : ByteArray) (num : Int) (hm : nm.size ≤ 4096) (hn : num < 100 ∨ 65535 < num) : PFine { p with nodes := p.nodes.set i ⟨nm, num⟩ } :=
  ⟨⟨fun n hx => by rcases List.mem_or_eq_of_mem_set hx with h1 | h1; exact h.small.nodes n h1; rw [h1]; exact hm, h.small.dests, by show (p.nodes.set i _).length ≤ _; rw [List.length_set]; exact h.small.ln, h.small.ll, h.small.ld, h.small.lc⟩, fun hr => right_tiny hr (fun n hx => by rcases List.mem_or_eq_of_mem_set hx with h1 | h1; exact tiny_nums (p := p) h.tiny n h1; rw [h1]; exact hn) (tiny_limits (p := p) h.tiny)⟩
theorem fine_link {p : PPlan} (h : NetOk p) (x : PLink) : PFine { p with links := p.links ++ [x] } :=
  ⟨⟨h.small.nodes, h.small.dests, h.small.ln, by show (p.links ++ [x]).length ≤ _; rw [List.length_append]; have := h.links1; simp; omega, h.small.ld, h.small.lc⟩, fun hr => right_tiny hr (tiny_nums (p := p) h.tiny) (tiny_limits (p := p) h.tiny)⟩
theorem fine_dest {p : PPlan} (h : NetOk p) (x : PDest) (hm : x.name.size ≤ 4096) (ho : x.orig.length ≤ 4000) : PFine { p with dests := p.dests ++ [x] } :=
  ⟨⟨h.small.nodes, fun d hx => by rcases List.mem_append.1 hx with h1 | h1; exact h.small.dests d h1; rw [List.mem_singleton] at h1; rw [h1]; exact ⟨hm, ho⟩, h.small.ln, h.small.ll, by show (p.dests ++ [x]).length ≤ _; rw [List.length_append]; have := h.dests1; simp; omega, h.small.lc⟩, fun hr => right_tiny hr (tiny_nums (p := p) h.tiny) (tiny_limits (p := p) h.tiny)⟩
theorem fine_check {p : PPlan} (h : NetOk p) (x : PCheck) (hl : x.limit < 100 ∨ 65535 < x.limit) : PFine { p with checks := p.checks ++ [x] } :=
  ⟨⟨h.small.nodes, h.small.dests, h.small.ln, h.small.ll, h.small.ld, by show (p.checks ++ [x]).length ≤ _; rw [List.length_append]; have := h.checks1; simp; omega⟩, fun hr => right_tiny hr (tiny_nums (p := p) h.tiny) (fun c hx => by rcases List.mem_append.1 hx with h1 | h1; exact tiny_limits (p := p) h.tiny c h1; rw [List.mem_singleton] at h1; rw [h1]; exact hl)⟩
end Go.Proofs.YtdmilbfdiebjgaaDoor
