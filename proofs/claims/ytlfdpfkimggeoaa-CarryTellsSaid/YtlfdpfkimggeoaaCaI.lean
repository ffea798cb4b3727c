/-
  Layer 7's laws: what becomes of routes, in numbers.
-/
import Derived.Test.YtlfdpfkimggeoaaCaH
import Derived.Test.YtlfdpfkimggeoaaPlZb
namespace Go.Proofs.Ytlfdpfkimggeoaa
open Go.RowKit
set_option linter.unusedVariables false
set_option linter.unusedSimpArgs false

theorem right_partsC {p : PPlan} (h : rightB p = true) : protoB p.proto p.cap = true ∧ nodesB p.nodes = true ∧ linksB p.nodes.length p.links = true ∧ destsB p.nodes p.dests = true := by
  unfold rightB at h
  simp only [Bool.and_eq_true] at h
  exact ⟨h.1, h.2.2.1, h.2.2.2.1, h.2.2.2.2.1⟩
theorem proto_two {p : PPlan} (h : rightB p = true) : (p.proto = 1 ∧ p.cap = 0) ∨ (p.proto = 2 ∧ 1 ≤ p.cap ∧ p.cap ≤ 12) := by
  have h1 := (right_partsC h).1
  unfold protoB at h1
  split at h1
  · next e => simp only [decide_eq_true_eq] at h1; exact .inl ⟨e, h1⟩
  · split at h1
    · next e => unfold withinB at h1; simp only [Bool.and_eq_true, decide_eq_true_eq] at h1; exact .inr ⟨e, by omega, by omega⟩
    · cases h1
theorem link_ends {p : PPlan} (h : rightB p = true) {i : Nat} {l : PLink} (hl : p.links[i]? = some l) : ∃ a b : Nat, l.a = a ∧ l.b = b ∧ a < b ∧ b < p.nodes.length ∧ 1 ≤ l.cost ∧ l.cost ≤ 15 := by
  have h2 := (right_partsC h).2.2.1
  unfold linksB at h2
  simp only [Bool.and_eq_true, decide_eq_true_eq] at h2
  have h3 := (allF_iff _ _ _).1 h2.2 i l hl
  unfold linkOk placeB withinB at h3
  simp only [Bool.and_eq_true, decide_eq_true_eq] at h3
  obtain ⟨⟨b0, b1⟩, ⟨a0, a1⟩, ⟨c0, c1⟩, _⟩ := h3
  exact ⟨l.a.toNat, l.b.toNat, by omega, by omega, by omega, by omega, c0, c1⟩
theorem node_num {p : PPlan} (h : rightB p = true) {i : Nat} {nd : PNode} (hn : p.nodes[i]? = some nd) : 1 ≤ nd.num ∧ nd.num ≤ 65535 := by
  have h2 := (right_partsC h).2.1
  unfold nodesB at h2
  simp only [Bool.and_eq_true] at h2
  have h3 := (allF_iff _ _ _).1 h2.2 i nd hn
  unfold nodeOk withinB at h3
  simp only [Bool.and_eq_true, decide_eq_true_eq] at h3
  exact ⟨h3.2.2.1, h3.2.2.2⟩
theorem oi_at {p : PPlan} (h : rightB p = true) {i : Nat} {l : PLink} (hl : p.links[i]? = some l) (x : Int) : oiB p (i : Int) x = otherI l x := by
  unfold oiB otherB
  rw [if_pos h, if_pos (by omega), Int.toNat_natCast, hl]
theorem oi_end (p : PPlan) (x : Int) : oiB p (p.links.length : Int) x = -1 := by
  unfold oiB otherB
  rw [if_pos (show (0 : Int) ≤ (p.links.length : Int) by omega), Int.toNat_natCast, List.getElem?_eq_none (Nat.le_refl _)]
  split <;> rfl
theorem numAt_nat {p : PPlan} {i : Nat} {nd : PNode} (hn : p.nodes[i]? = some nd) : numAt p (i : Int) = nd.num := by unfold numAt; rw [Int.toNat_natCast, hn]; rfl
theorem costAt_nat {p : PPlan} {i : Nat} {l : PLink} (hn : p.links[i]? = some l) : costAt p (i : Int) = l.cost := by unfold costAt; rw [Int.toNat_natCast, hn]; rfl
theorem fits_nat {p : PPlan} (h : rightB p = true) {i : Nat} {nd : PNode} (hn : p.nodes[i]? = some nd) (r : Rt) : fitsB p (i : Int) r = fitB p nd.num r := by
  unfold fitsB
  have := (List.getElem?_eq_some_iff.1 hn).1
  rw [h, decide_eq_true (show (0 : Int) ≤ (i : Int) by omega), decide_eq_true (show (i : Int) < (p.nodes.length : Int) by omega), numAt_nat hn]
  rfl
theorem fits_len (p : PPlan) (r : Rt) : fitsB p (p.nodes.length : Int) r = false := by
  unfold fitsB
  rw [decide_eq_false (show ¬ (p.nodes.length : Int) < (p.nodes.length : Int) by omega)]
  simp
theorem fit_none (p : PPlan) (num : Int) : fitB p num Rt.none = true := rfl
theorem over_none {p : PPlan} {link node : Int} (h : oiB p link node < 0) (r : Rt) : overB p link node r = Rt.none := by unfold overB; rw [if_pos (.inl h)]
theorem over_at {p : PPlan} (h : rightB p = true) {i j x : Nat} {l : PLink} {nd nx : PNode} (hl : p.links[i]? = some l) (ho : otherI l (x : Int) = (j : Int)) (hj : p.nodes[j]? = some nd) (hx : p.nodes[x]? = some nx) (r : Rt) :
    overB p (i : Int) (x : Int) r = if r.kind = 0 ∨ fitB p nd.num r = false then Rt.none else if fitB p nx.num (toldR p l.cost nd.num r) = true then toldR p l.cost nd.num r else Rt.none := by
  unfold overB
  rw [oi_at h hl, ho, numAt_nat hj, numAt_nat hx, costAt_nat hl]
  by_cases e : r.kind = 0 ∨ fitB p nd.num r = false
  · rw [if_pos (.inr e), if_pos e]
  · rw [if_neg (by rintro (h1 | h1); omega; exact e h1), if_neg e]
theorem held_kind (p : PPlan) (num : Int) (raw : List Int) : (heldR p num raw).kind ≠ 0 := by unfold heldR; split <;> simp
theorem held_fit {p : PPlan} (h : rightB p = true) (num : Int) (raw : List Int) : fitB p num (heldR p num raw) = true := by
  rcases proto_two h with ⟨e, e2⟩ | ⟨e, c1, c2⟩
  · obtain ⟨v0, v1⟩ := heldV_in raw
    unfold heldR fitB holdsB rtRight
    rw [if_pos e, if_neg (show ¬ p.proto = 2 by omega)]
    simp [v0, v1]
  · obtain ⟨g1, g2, g3⟩ := heldG_ok p.cap num c2 raw [] (by decide) (by simp; omega) (by simp)
    unfold heldR fitB holdsB rtRight memI
    rw [if_neg (show ¬ p.proto = 1 by omega), if_pos e]
    simp [g1, g2, g3]
/-- What goes over a link, of a route that fits. -/
theorem told_fit {p : PPlan} (h : rightB p = true) {num : Int} (hn : 1 ≤ num ∧ num ≤ 65535) {r : Rt} (hf : fitB p num r = true) (hk : r.kind ≠ 0) {cost : Int} (hc : 1 ≤ cost) (num2 : Int) :
    fitB p num2 (toldR p cost num r) = if p.proto = 2 then (decide ((r.path.length : Int) < p.cap) && (!decide (num2 = num) && !memI num2 r.path)) else decide (r.cost + cost ≤ 15) := by
  rcases proto_two h with ⟨e, e2⟩ | ⟨e, c1, c2⟩
  · have hp : ¬ p.proto = 2 := by omega
    obtain ⟨k1, k2, k3, k4⟩ := fit_vec hf hk hp
    unfold toldR fitB holdsB rtRight
    rw [if_neg hp, if_neg hp, if_neg hp]
    simp
    omega
  · obtain ⟨k1, k2, k3, k4, k5, k6⟩ := fit_pth hf hk e
    unfold toldR fitB holdsB rtRight
    rw [if_pos e, if_pos e, if_pos e]
    have k3' := k3
    unfold pathB pathOk at k3'
    simp only [Bool.and_eq_true, decide_eq_true_eq, List.all_eq_true] at k3'
    by_cases hl : (r.path.length : Int) < p.cap
    · have hpb : pathB (num :: r.path) = true := by
        unfold pathB pathOk
        simp only [Bool.and_eq_true, decide_eq_true_eq, List.all_eq_true, List.length_cons]
        refine ⟨by omega, fun x hx => ?_, ?_⟩
        · rcases List.mem_cons.1 hx with hx | hx
          · subst hx; exact hn
          · exact k3'.2.1 x hx
        · exact List.nodup_cons.2 ⟨k6, k3'.2.2⟩
      unfold memI
      simp [hpb, hl]
      intro _ _
      omega
    · simp [hl]
      intro _ h2
      omega
theorem other_b {l : PLink} {a b : Nat} (ha : l.a = a) (hb : l.b = b) (hab : a < b) : otherI l (b : Int) = (a : Int) ∧ otherI l (a : Int) = (b : Int) := by
  unfold otherI
  rw [ha, hb]
  constructor
  · rw [if_neg (by omega), if_pos rfl]
  · rw [if_pos rfl]
theorem other_no {l : PLink} {a b n : Nat} (ha : l.a = a) (hb : l.b = b) (h1 : n ≠ a) (h2 : n ≠ b) : otherI l (n : Int) = -1 := by
  unfold otherI
  rw [ha, hb, if_neg (by omega), if_neg (by omega)]
theorem caFits_k {p : PPlan} (node k co : Int) (l : List Int) (b : Bool) (HB : Hid (fitsB p node ⟨k, co, l⟩ = b)) {An Al Ad Ac A : Option Addr} {cn cl cd cc n c : Nat} {w : World} (h : PAt w p p.proto p.cap p.k An p.nodes.length Al p.links.length Ad p.dests.length Ac p.checks.length) (hs : PSmall p) (hr : RtAt w ⟨k, co, l⟩ A n) (hl : n ≤ c) (hc : c ≤ 9223372036854775807) :
    Calls Try.prog 28 #[.agg #[.int .i64 p.proto, .int .i64 p.cap, .int .i64 p.k, .slice An p.nodes.length cn, .slice Al p.links.length cl, .slice Ad p.dests.length cd, .slice Ac p.checks.length cc], .int .i64 node, .agg #[.int .i64 k, .int .i64 co, .slice A n c]] w fun e w' => e = .returned (.bool b) ∧ Below w.heap.size w w' :=
  caFits_w p node ⟨k, co, l⟩ b HB h hs hr hl hc
theorem RtAt.none_ (w : World) : RtAt w ⟨0, 0, []⟩ Option.none 0 := ⟨rfl, CellsAt.nil _ _ _, by omega⟩
end Go.Proofs.Ytlfdpfkimggeoaa
