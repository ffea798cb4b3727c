/-
  Layer 7's laws: what goes over a link is longer, and better over it if it was.
-/
import Derived.Test.YtlfdpfkimggeoaaCaI
namespace Go.Proofs.Ytlfdpfkimggeoaa
open Go.RowKit
set_option linter.unusedVariables false
set_option linter.unusedSimpArgs false

theorem told_kind {p : PPlan} {num cost : Int} {r : Rt} (hf : fitB p num r = true) (hk : r.kind ≠ 0) : (toldR p cost num r).kind = r.kind ∧ r.kind = (if p.proto = 2 then 2 else 1) := by
  by_cases hp : p.proto = 2
  · obtain ⟨k1, _⟩ := fit_pth hf hk hp
    unfold toldR
    rw [if_pos hp, if_pos hp]
    exact ⟨k1.symm, k1⟩
  · obtain ⟨k1, _⟩ := fit_vec hf hk hp
    unfold toldR
    rw [if_neg hp, if_neg hp]
    exact ⟨k1.symm, k1⟩
theorem told_len {p : PPlan} (h : rightB p = true) {num cost : Int} {r : Rt} (hf : fitB p num r = true) (hk : r.kind ≠ 0) : rtLen (toldR p cost num r) = rtLen r + (if p.proto = 1 then cost else 1) := by
  rcases proto_two h with ⟨e, e2⟩ | ⟨e, c1, c2⟩
  · have hp : ¬ p.proto = 2 := by omega
    obtain ⟨k1, k2, k3, k4⟩ := fit_vec hf hk hp
    unfold toldR rtLen lenV
    rw [if_neg hp, if_pos e, if_pos k1, if_pos rfl]
  · obtain ⟨k1, _⟩ := fit_pth hf hk e
    unfold toldR rtLen lenV
    rw [if_pos e, if_neg (show ¬ p.proto = 1 by omega), if_neg (show ¬ r.kind = 1 by omega), if_pos k1]
    simp
theorem told_worse {p : PPlan} (h : rightB p = true) {num cost : Int} (hc : 1 ≤ cost) {r : Rt} (hf : fitB p num r = true) (hk : r.kind ≠ 0) : rtBetter r (toldR p cost num r) = true := by
  have h1 := (told_kind (cost := cost) hf hk).1
  have h2 := told_len (cost := cost) h hf hk
  unfold rtBetter
  rw [if_pos h1.symm, if_neg (by rw [h2]; split <;> omega), h2]
  simp
  split <;> omega
theorem cmpL_same (x : Int) (p q : List Int) : cmpL (x :: p) (x :: q) = cmpL p q := by
  show (if x = x then cmpL p q else cmpI x x) = cmpL p q
  rw [if_pos rfl]
theorem told_better {p : PPlan} (h : rightB p = true) {num cost : Int} {a b : Rt} (ha : fitB p num a = true) (hka : a.kind ≠ 0) (hb : fitB p num b = true) (hkb : b.kind ≠ 0) : rtBetter (toldR p cost num a) (toldR p cost num b) = rtBetter a b := by
  have ka := told_kind (cost := cost) ha hka
  have kb := told_kind (cost := cost) hb hkb
  have la := told_len (cost := cost) h ha hka
  have lb := told_len (cost := cost) h hb hkb
  have hkk : a.kind = b.kind := ka.2.trans kb.2.symm
  unfold rtBetter
  rw [if_pos (by rw [ka.1, kb.1, hkk]), if_pos hkk, la, lb]
  by_cases e : rtLen a = rtLen b
  · rw [if_pos (by rw [e]), if_pos e]
    rcases proto_two h with ⟨e1, e2⟩ | ⟨e1, c1, c2⟩
    · have hp : ¬ p.proto = 2 := by omega
      have pa := (fit_vec ha hka hp).2.2.2
      have pb := (fit_vec hb hkb hp).2.2.2
      unfold toldR
      rw [if_neg hp, if_neg hp, pa, pb]
    · unfold toldR
      rw [if_pos e1, if_pos e1, cmpL_same]
  · rw [if_neg (by omega), if_neg e]
    congr 1
    exact propext ⟨fun h => by omega, fun h => by omega⟩
theorem over_two {p : PPlan} (h : rightB p = true) {i j x : Nat} {l : PLink} {nd nx : PNode} (hl : p.links[i]? = some l) (ho : otherI l (x : Int) = (j : Int)) (hj : p.nodes[j]? = some nd) (hx : p.nodes[x]? = some nx) {r ro : Rt} (hf : fitB p nd.num r = true) (hk : r.kind ≠ 0) (hr : overB p (i : Int) (x : Int) r = ro) :
    (ro = toldR p l.cost nd.num r ∧ fitB p nx.num ro = true ∧ ro.kind = r.kind) ∨ (ro = Rt.none ∧ fitB p nx.num (toldR p l.cost nd.num r) = false) := by
  rw [over_at h hl ho hj hx, if_neg (by simp [hk, hf])] at hr
  cases e : fitB p nx.num (toldR p l.cost nd.num r)
  · rw [e, if_neg (by simp)] at hr
    exact .inr ⟨hr.symm, rfl⟩
  · rw [e, if_pos rfl] at hr
    exact .inl ⟨hr.symm, by rw [← hr]; exact e, by rw [← hr]; exact (told_kind hf hk).1⟩
/-- By distances: what does not come is no better than what comes. -/
theorem none_worse {p : PPlan} (h : rightB p = true) (hp : p.proto = 1) {num num2 cost : Int} (hn : 1 ≤ num ∧ num ≤ 65535) (hc : 1 ≤ cost) {a b : Rt} (ha : fitB p num a = true) (hka : a.kind ≠ 0) (hb : fitB p num b = true) (hkb : b.kind ≠ 0)
    (hx : fitB p num2 (toldR p cost num a) = false) (hy : fitB p num2 (toldR p cost num b) = true) : rtBetter a b = false := by
  have hp2 : ¬ p.proto = 2 := by omega
  rw [told_fit h hn ha hka hc, if_neg hp2, decide_eq_false_iff_not] at hx
  rw [told_fit h hn hb hkb hc, if_neg hp2, decide_eq_true_eq] at hy
  obtain ⟨a1, a2, a3, a4⟩ := fit_vec ha hka hp2
  obtain ⟨b1, b2, b3, b4⟩ := fit_vec hb hkb hp2
  unfold rtBetter rtLen lenV
  rw [if_pos (a1.trans b1.symm), if_pos a1, if_pos b1, if_neg (by omega)]
  simp
  omega
theorem heldOut {p : PPlan} {num : Int} {raw : List Int} {r : Rt} (H : Hid (heldR p num raw = r)) {w w' : World} {e : Ending} (h : RtOut (heldR p num raw) w e w') : RtOut r w e w' := H.out ▸ h
theorem held_is (p : PPlan) (i : Nat) (nd : PNode) (HND : Hid (p.nodes[i]? = some nd)) (hcap : p.cap ≤ 12) (l : List Int) (r : Rt) (HR : Hid (heldR p nd.num l = r)) (HWF : Hid (∀ v ∈ l, InI v)) {An Al Ad Ac A : Option Addr} {cn cl cd cc c : Nat} (n : Nat) (HN : Hid (l.length = n)) (hm : n ≤ 9223372036854775807) {w : World} (h : PAt w p p.proto p.cap p.k An p.nodes.length Al p.links.length Ad p.dests.length Ac p.checks.length) (hs : PSmall p) (hA : CellsAt w w.heap.size A (l.map (Value.int .i64))) :
    Calls Try.prog 31 #[.agg #[.int .i64 p.proto, .int .i64 p.cap, .int .i64 p.k, .slice An p.nodes.length cn, .slice Al p.links.length cl, .slice Ad p.dests.length cd, .slice Ac p.checks.length cc], .int .i64 (i : Nat), .slice A n c] w (RtOut r w) :=
  (held_any p i nd HND.out hcap l HWF.out n HN.out hm h hs hA).mono fun e w' hh => heldOut HR hh
end Go.Proofs.Ytlfdpfkimggeoaa
