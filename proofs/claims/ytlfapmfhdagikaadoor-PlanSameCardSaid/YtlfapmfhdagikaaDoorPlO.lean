/-
  A destination's line; the two lines at the head.
-/
import Derived.Test.YtlfapmfhdagikaaDoorPlN
namespace Go.Proofs.YtlfapmfhdagikaaDoor
open Go.RowKit

theorem own_new (w : World) (base : Nat) (e : TypeId) (xs : List Value) (k : Nat) (hk : w.heap.size = k) (hb : base ≤ k) (n : Nat) (hn : xs.length = n) (hm : n ≤ 4096) : (w.alloc (.cells xs.toArray e)).ownsRow base e 1 (.slice (some ⟨k, 0, none⟩) n n) n xs := by
  subst hk hn
  exact ⟨by simp, .inr ⟨w.heap.size, xs.length, xs.toArray, rfl, hb, Blk.new w e _, Nat.le_refl _, by unfold maxLen; omega, by simp, by simp⟩⟩
theorem own_slice {w : World} {base : Nat} {e : TypeId} {size : Nat} {v : Value} {n : Nat} {xs : List Value} (h : w.ownsRow base e size v n xs) (h0 : 0 < n) : ∃ g cap, v = .slice (some ⟨g, 0, none⟩) n cap ∧ n ≤ cap := by
  rcases h.2 with ⟨_, hz⟩ | ⟨g, cap, cur, hv, _, _, hc, _⟩
  · omega
  · exact ⟨g, cap, hv, hc⟩
theorem strInfo : (Tryd.prog.info? 9).map (fun i => (i.zero, i.size, i.bytes)) = some (some (.string ⟨#[]⟩), 1, 16) := by kernel_rfl

/-- The words of a destination's line, up to its k-th origin. -/
def destK (ns : List PNode) (nm : ByteArray) (og : List Int) (k : Nat) : List ByteArray := [⟨#[100, 101, 115, 116]⟩, nm, ⟨#[97, 116]⟩] ++ (og.take k).map (nmB ns)
theorem destK_step (ns : List PNode) (nm : ByteArray) (og : List Int) (k : Nat) (a : Int) (h : og[k]? = some a) : destK ns nm og (k + 1) = destK ns nm og k ++ [nmB ns a] := by
  unfold destK
  rw [List.take_add_one, h]
  simp
theorem destK_all (ns : List PNode) (nm : ByteArray) (og : List Int) : destK ns nm og og.length = destW ns ⟨nm, og⟩ := by
  unfold destK destW
  rw [List.take_length]

set_option maxHeartbeats 4000000 in
set_option maxRecDepth 100000 in
theorem dest_line (B b : Nat) (l : List UInt8) (p : PPlan) {pr ca kk : Int} {An Al Ad Ac : Option Addr} {ln cn ll cl ld cd lc cc : Nat} (w : World) (h : PrAt B b l w) (hBw : B ≤ w.heap.size) (hN : RowAt w w.heap.size An (p.nodes.flatMap nodeC)) (hln : Hid (p.nodes.length = ln))
    (nm : ByteArray) (og : List Int) {Ao : Option Addr} {lo co : Nat} (hO : RowAt w w.heap.size Ao (og.map (Value.int .i64))) (hlo : Hid (og.length = lo)) (hlo2 : lo ≤ 4000) (hog : Hid (∀ a ∈ og, ∃ i : Nat, a = i ∧ i < ln)) (hlen : l.length + (lineS (destW p.nodes ⟨nm, og⟩)).length ≤ 140737488355328) :
    Calls Tryd.prog 30 #[.pointer (some ⟨b, 0, none⟩), .agg #[.int .i64 pr, .int .i64 ca, .int .i64 kk, .slice An ln cn, .slice Al ll cl, .slice Ad ld cd, .slice Ac lc cc], .agg #[.string nm, .slice Ao lo co]] w (Lined B b l (destW p.nodes ⟨nm, og⟩) w) := by
  obtain ⟨i0, hi, hz0, hz1, hz2⟩ := info_parts strInfo
  have HH := Lib.hid h
  have hB3 := Lib.hid (fun (o1 o2 o3 : Obj) => (((Below.refl _ w).alloc (Nat.le_refl _) o1).alloc (by simp) o2).alloc (by simp; omega) o3)
  have hX := Lib.hid (fun (o2 o3 : Obj) => ((Blk.new w 29 #[.int .i64 pr, .int .i64 ca, .int .i64 kk, .slice An ln cn, .slice Al ll cl, .slice Ad ld cd, .slice Ac lc cc]).alloc o2).alloc o3)
  clear h
  go_enter Tryd.func30, Tryd.ntmps30
  go_wp2
  go_loopw [6, 8, 15] (fun v _ i wr => ∃ k : Nat, k ≤ lo ∧ i = .int .i64 (k : Nat) ∧ wr.ownsRow w.heap.size 9 1 v (3 + k) ((destK p.nodes nm og k).map Value.string) ∧ Below w.heap.size w wr ∧ Blk wr w.heap.size 29 #[.int .i64 pr, .int .i64 ca, .int .i64 kk, .slice An ln cn, .slice Al ll cl, .slice Ad ld cd, .slice Ac lc cc]) (fun _ _ i _ => lo - (intOf i).toNat)
  case atStart => exact ⟨0, Nat.zero_le _, rfl, own_new _ _ _ (List.map Value.string (destK p.nodes nm og 0)) _ (by simp) (by omega) 3 (by simp [destK]) (by omega), hB3.out _ _ _, hX.out _ _⟩
  case round =>
    clear hX hB3
    obtain ⟨k, hk, rfl, hown, hbw, hbox⟩ := hrel
    by_cases hlt : k < lo
    · obtain ⟨a, ha⟩ : ∃ x, og[k]? = some x := ⟨_, List.getElem?_eq_getElem (by rw [hlo.out]; exact hlt)⟩
      obtain ⟨i, hai, hil⟩ := hog.out a (List.mem_of_getElem? ha)
      subst hai
      obtain ⟨x, hx⟩ : ∃ x, p.nodes[i]? = some x := ⟨_, List.getElem?_eq_getElem (by rw [hln.out]; exact hil)⟩
      obtain ⟨g, rfl, hg, c0, _⟩ := (hN.up hbw).node hx
      obtain ⟨g', rfl, hg', d0⟩ := (hO.up hbw).num ha
      have d3 := hbox.cell 3
      have hst := destK_step p.nodes nm og k _ ha
      rw [nm_is hx] at hst
      have HST := Lib.hid hst
      have hHB := Lib.hid hbox
      have hHW := Lib.hid hbw
      have hsz := hbw.size
      have hnx := Lib.hid (cells_new wr [.string x.name] 9)
      clear hst hx ha hN hO hbox hbw
      go_wp2_with (at_builtin; refine wpList_append_own _ rfl _ _ 37 rfl w.heap.size 9 i0 (.string ⟨#[]⟩) 1 16 Tryd.underlying37 hi hz0 hz1 hz2 rfl (by decide) _ _ _ rfl (hown.alloc _) ⟨wr.heap.size, 0, none⟩ 1 1 [.string x.name] rfl rfl hnx.out (by simp [Value.oneCell']) (by unfold maxLen; omega) (by omega) (by simp; omega) ?_; intro v' w4 hown4 hgrow4 _)
      go_roundw
      case rel =>
        refine ⟨k + 1, by omega, by go_num, ?_, (hHW.out.alloc hsz _).grown hgrow4 (by simp; omega) (fun q hq => (hown.lt q hq).1), (hHB.out.alloc _).grown hgrow4 (fun e => own_blk_ne hown hHB.out (by decide) e.symm)⟩
        rw [HST.out, List.map_append]
        exact hown4
      case measure => simp [intOf]; omega
    · obtain rfl : k = lo := by omega
      obtain ⟨g, cap, rfl, hcap⟩ := own_slice hown (by omega)
      have hall := destK_all p.nodes nm og
      rw [hlo.out] at hall
      rw [hall] at hown
      have hr := RowAt.of_own hown
      have HL : Hid ((destW p.nodes ⟨nm, og⟩).length = 3 + k) := Lib.hid (by unfold destW; rw [List.length_append, List.length_map, hlo.out]; rfl)
      have hne : destW p.nodes ⟨nm, og⟩ ≠ [] := by unfold destW; simp
      clear hall hown hN hO
      go_wp2_with (go_at_call 28; refine (line_is B b l (destW p.nodes ⟨nm, og⟩) w HH.out hbw hr HL hcap hne (by omega) hlen hBw).mono ?_; rintro e w5 ⟨rfl, hp5, hb5, hf5⟩)
      go_end0
      exact ⟨rfl, hp5, hb5, hf5⟩

/-- What a call tells, at the world w. -/
def Told (B b : Nat) (l t : List UInt8) (w : World) (e : Ending) (w' : World) : Prop := e = .returned (.tuple #[]) ∧ PrAt B b (l ++ t) w' ∧ Below B w w' ∧ Far b w w'

set_option maxHeartbeats 4000000 in
set_option maxRecDepth 100000 in
theorem head_any (B b : Nat) (l : List UInt8) (pr : Int) (ca kk : Nat) {An Al Ad Ac : Option Addr} {ln cn ll cl ld cd lc cc : Nat} (w : World) (h : PrAt B b l w) (hBw : B ≤ w.heap.size) (hca : ca < 100) (hkk : kk < 100)
    (hlen : l.length + ((lineS (protoW pr ca)).length + (lineS (failW kk)).length) ≤ 140737488355328) :
    Calls Tryd.prog 27 #[.pointer (some ⟨b, 0, none⟩), .agg #[.int .i64 pr, .int .i64 (ca : Int), .int .i64 (kk : Int), .slice An ln cn, .slice Al ll cl, .slice Ad ld cd, .slice Ac lc cc]] w (Told B b l (lineS (protoW pr ca) ++ lineS (failW kk)) w) := by
  have hX := Lib.hid (Blk.new w 29 #[.int .i64 pr, .int .i64 (ca : Int), .int .i64 (kk : Int), .slice An ln cn, .slice Al ll cl, .slice Ad ld cd, .slice Ac lc cc])
  have hlt := h.lt
  have HH := Lib.hid (h.up (below_new w (.cells #[.int .i64 pr, .int .i64 (ca : Int), .int .i64 (kk : Int), .slice An ln cn, .slice Al ll cl, .slice Ad ld cd, .slice Ac lc cc] 29)))
  have hfw : failW (kk : Int) = [⟨#[102, 97, 105, 108, 117, 114, 101, 115]⟩, ⟨(Lib.decDigits kk).toArray⟩] := rfl
  rw [hfw] at hlen ⊢
  clear h hfw
  by_cases hp : pr = 1
  · subst hp
    have hpw : protoW 1 (ca : Int) = [⟨#[112, 114, 111, 116, 111, 99, 111, 108]⟩, ⟨#[118, 101, 99, 116, 111, 114]⟩] := rfl
    rw [hpw] at hlen ⊢
    clear hpw
    go_enter Tryd.func27, Tryd.ntmps27
    go_wp2_with (first
      | (go_at_call 28; refine (line_is B b l [⟨#[112, 114, 111, 116, 111, 99, 111, 108]⟩, ⟨#[118, 101, 99, 116, 111, 114]⟩] _ HH.out (below_new _ _) (RowAt.newAt _ (List.map Value.string [⟨#[112, 114, 111, 116, 111, 99, 111, 108]⟩, ⟨#[118, 101, 99, 116, 111, 114]⟩]) _ _ (by simp)) (Lib.hid rfl) (Nat.le_refl _) (by simp) (by simp) (by omega) (by simp; omega)).mono ?_; rintro e w5 ⟨rfl, hp5, hb5, hf5⟩; have hsz5 := hb5.size; have d2 := (hf5 _ _ _ hX.out (by decide) (by omega)).cell 2))
    have HP := Lib.hid hp5
    have HB := Lib.hid hb5
    have HF := Lib.hid hf5
    clear hp5 hb5 hf5
    go_wp2_with (first
      | (go_at_call 29; refine (Tryd.strconv_Itoa_small kk hkk _).mono ?_; rintro e w2 ⟨rfl, rfl⟩)
      | (go_at_call 28; refine (line_is B b _ [⟨#[102, 97, 105, 108, 117, 114, 101, 115]⟩, ⟨(Lib.decDigits kk).toArray⟩] _ HP.out (below_new _ _) (RowAt.newAt _ (List.map Value.string [⟨#[102, 97, 105, 108, 117, 114, 101, 115]⟩, ⟨(Lib.decDigits kk).toArray⟩]) _ _ (by simp)) (Lib.hid rfl) (Nat.le_refl _) (by simp) (by simp) (by rw [List.length_append]; omega) (by simp at hsz5; omega)).mono ?_; rintro e w6 ⟨rfl, hp6, hb6, hf6⟩))
    go_end0
    refine ⟨rfl, ?_, (((Below.refl _ w).alloc hBw _).trans HB.out).trans hb6, ((Far.of_below (below_new w _)).trans HF.out).trans hf6⟩
    rw [← List.append_assoc]
    exact hp6
  · have hpw : protoW pr (ca : Int) = [⟨#[112, 114, 111, 116, 111, 99, 111, 108]⟩, ⟨#[112, 97, 116, 104]⟩, ⟨(Lib.decDigits ca).toArray⟩] := by unfold protoW; rw [if_neg hp]; rfl
    rw [hpw] at hlen ⊢
    have hp' : (pr == 1) = false := by simpa using hp
    clear hpw hp
    go_enter Tryd.func27, Tryd.ntmps27
    go_wp2_with (first
      | (go_at_call 29; refine (Tryd.strconv_Itoa_small ca hca _).mono ?_; rintro e w2 ⟨rfl, rfl⟩)
      | (go_at_call 28; refine (line_is B b l [⟨#[112, 114, 111, 116, 111, 99, 111, 108]⟩, ⟨#[112, 97, 116, 104]⟩, ⟨(Lib.decDigits ca).toArray⟩] _ HH.out (below_new _ _) (RowAt.newAt _ (List.map Value.string [⟨#[112, 114, 111, 116, 111, 99, 111, 108]⟩, ⟨#[112, 97, 116, 104]⟩, ⟨(Lib.decDigits ca).toArray⟩]) _ _ (by simp)) (Lib.hid rfl) (Nat.le_refl _) (by simp) (by simp) (by omega) (by simp; omega)).mono ?_; rintro e w5 ⟨rfl, hp5, hb5, hf5⟩; have hsz5 := hb5.size; have d2 := (hf5 _ _ _ hX.out (by decide) (by omega)).cell 2))
    have HP := Lib.hid hp5
    have HB := Lib.hid hb5
    have HF := Lib.hid hf5
    clear hp5 hb5 hf5
    go_wp2_with (first
      | (go_at_call 29; refine (Tryd.strconv_Itoa_small kk hkk _).mono ?_; rintro e w2 ⟨rfl, rfl⟩)
      | (go_at_call 28; refine (line_is B b _ [⟨#[102, 97, 105, 108, 117, 114, 101, 115]⟩, ⟨(Lib.decDigits kk).toArray⟩] _ HP.out (below_new _ _) (RowAt.newAt _ (List.map Value.string [⟨#[102, 97, 105, 108, 117, 114, 101, 115]⟩, ⟨(Lib.decDigits kk).toArray⟩]) _ _ (by simp)) (Lib.hid rfl) (Nat.le_refl _) (by simp) (by simp) (by rw [List.length_append]; omega) (by simp at hsz5; omega)).mono ?_; rintro e w6 ⟨rfl, hp6, hb6, hf6⟩))
    go_end0
    refine ⟨rfl, ?_, (((Below.refl _ w).alloc hBw _).trans HB.out).trans hb6, ((Far.of_below (below_new w _)).trans HF.out).trans hf6⟩
    rw [← List.append_assoc]
    exact hp6

end Go.Proofs.YtlfapmfhdagikaaDoor
