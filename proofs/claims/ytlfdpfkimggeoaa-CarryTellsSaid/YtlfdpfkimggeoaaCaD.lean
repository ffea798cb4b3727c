/-
  Package carry: Over.
-/
import Derived.Test.YtlfdpfkimggeoaaCaC
namespace Go.Proofs.Ytlfdpfkimggeoaa
open Go.RowKit
set_option linter.unusedVariables false
set_option linter.unusedSimpArgs false

def costAt (p : PPlan) (link : Int) : Int := ((p.links[link.toNat]?).map (·.cost)).getD 0
def overB (p : PPlan) (link node : Int) (r : Rt) : Rt :=
  if oiB p link node < 0 ∨ r.kind = 0 ∨ fitB p (numAt p (oiB p link node)) r = false then Rt.none
  else if fitB p (numAt p node) (toldR p (costAt p link) (numAt p (oiB p link node)) r) = true then toldR p (costAt p link) (numAt p (oiB p link node)) r else Rt.none
theorem from_facts {p : PPlan} {link node v : Int} (h : oiB p link node = v) (h0 : 0 ≤ v) : rightB p = true ∧ ∃ (i j x : Nat) (l : PLink) (nd nx : PNode), link = i ∧ p.links[i]? = some l ∧ v = j ∧ node = x ∧ p.nodes[j]? = some nd ∧ p.nodes[x]? = some nx ∧ 1 ≤ l.cost ∧ l.cost ≤ 15 ∧ otherI l node = v ∧ ((l.a = x ∧ l.b = j) ∨ (l.a = j ∧ l.b = x)) := by
  unfold oiB at h
  cases hR : rightB p
  · rw [hR, if_neg (by simp)] at h; omega
  · rw [hR, if_pos rfl] at h
    unfold otherB at h
    by_cases h1 : 0 ≤ link
    · rw [if_pos h1] at h
      obtain ⟨i, rfl⟩ := Int.eq_ofNat_of_zero_le h1
      rw [Int.toNat_natCast] at h
      cases hl : p.links[i]? with
      | none => rw [hl] at h; dsimp only at h; omega
      | some l =>
        rw [hl] at h
        dsimp only at h
        have hR2 := hR
        unfold rightB at hR2
        simp only [Bool.and_eq_true] at hR2
        obtain ⟨_, _, _, h2, _⟩ := hR2
        unfold linksB at h2
        simp only [Bool.and_eq_true, decide_eq_true_eq] at h2
        have h3 := (allF_iff _ _ _).1 h2.2 i l hl
        unfold linkOk placeB withinB at h3
        simp only [Bool.and_eq_true, decide_eq_true_eq] at h3
        obtain ⟨⟨b0, b1⟩, ⟨a0, a1⟩, ⟨c0, c1⟩, _⟩ := h3
        have ho := h
        unfold otherI at h
        by_cases e1 : node = l.a
        · rw [if_pos e1] at h
          obtain ⟨nd, hnd⟩ : ∃ nd, p.nodes[l.b.toNat]? = some nd := ⟨_, List.getElem?_eq_getElem (by omega)⟩
          obtain ⟨nx, hnx⟩ : ∃ nd, p.nodes[l.a.toNat]? = some nd := ⟨_, List.getElem?_eq_getElem (by omega)⟩
          exact ⟨rfl, i, l.b.toNat, l.a.toNat, l, nd, nx, rfl, hl, by omega, by omega, hnd, hnx, c0, c1, ho, .inl ⟨by omega, by omega⟩⟩
        · rw [if_neg e1] at h
          by_cases e2 : node = l.b
          · rw [if_pos e2] at h
            obtain ⟨nd, hnd⟩ : ∃ nd, p.nodes[l.a.toNat]? = some nd := ⟨_, List.getElem?_eq_getElem (by omega)⟩
            obtain ⟨nx, hnx⟩ : ∃ nd, p.nodes[l.b.toNat]? = some nd := ⟨_, List.getElem?_eq_getElem (by omega)⟩
            exact ⟨rfl, i, l.a.toNat, l.b.toNat, l, nd, nx, rfl, hl, by omega, by omega, hnd, hnx, c0, c1, ho, .inr ⟨by omega, by omega⟩⟩
          · rw [if_neg e2] at h; omega
    · rw [if_neg h1] at h; omega
theorem fit_vec {p : PPlan} {num : Int} {r : Rt} (h : fitB p num r = true) (hk : r.kind ≠ 0) (hp : p.proto ≠ 2) : r.kind = 1 ∧ 0 ≤ r.cost ∧ r.cost ≤ 15 ∧ r.path = [] := by
  unfold fitB holdsB at h
  rw [if_neg hp] at h
  simp only [Bool.and_eq_true, Bool.or_eq_true, decide_eq_true_eq] at h
  obtain ⟨h1, h2⟩ := h
  have h3 : r.kind = 1 := h2.resolve_left hk
  unfold rtRight at h1
  rw [if_neg hk, if_pos h3] at h1
  simp only [Bool.and_eq_true, decide_eq_true_eq] at h1
  exact ⟨h3, h1.1, h1.2.1, List.eq_nil_of_length_eq_zero h1.2.2⟩
theorem fit_pth {p : PPlan} {num : Int} {r : Rt} (h : fitB p num r = true) (hk : r.kind ≠ 0) (hp : p.proto = 2) : r.kind = 2 ∧ r.cost = 0 ∧ pathB r.path = true ∧ r.path.length ≤ 12 ∧ (r.path.length : Int) ≤ p.cap ∧ num ∉ r.path := by
  unfold fitB holdsB at h
  rw [if_pos hp] at h
  simp only [Bool.and_eq_true, Bool.or_eq_true, decide_eq_true_eq, Bool.not_eq_true'] at h
  obtain ⟨h1, h2⟩ := h
  obtain ⟨h3, h4, h5⟩ := h2.resolve_left hk
  unfold rtRight at h1
  rw [if_neg hk, if_neg (by omega), if_pos h3] at h1
  simp only [Bool.and_eq_true, decide_eq_true_eq] at h1
  have h6 := h1.2
  unfold pathB at h6
  simp only [Bool.and_eq_true, decide_eq_true_eq] at h6
  unfold memI at h5
  exact ⟨h3, h1.1, h1.2, h6.1, h4, by simpa using h5⟩
/-- Over's boxes. -/
structure OV (w0 : World) (p : PPlan) (An : Option Addr) (cn : Nat) (Al : Option Addr) (cl : Nat) (Ad : Option Addr) (cd : Nat) (Ac : Option Addr) (cc : Nat) (r : Rt) (A : Option Addr) (n c : Nat) (w : World) : Prop where
  pr : PR w0 w0.heap.size p An cn Al cl Ad cd Ac cc (w0.heap.size + 1) r A n c w
  res : Blk w (w0.heap.size + 1 + 1) 42 #[.int .i64 0, .int .i64 0, .slice Option.none 0 0]
section
variable {w0 w w' : World} {p : PPlan} {An Al Ad Ac A : Option Addr} {cn cl cd cc n c : Nat} {r : Rt}
theorem OV.go (h : OV w0 p An cn Al cl Ad cd Ac cc r A n c w) (hb : Below w.heap.size w w') : OV w0 p An cn Al cl Ad cd Ac cc r A n c w' := ⟨h.pr.go hb, h.res.up hb⟩
theorem OV.drew (h : OV w0 p An cn Al cl Ad cd Ac cc r A n c w) : OV w0 p An cn Al cl Ad cd Ac cc r A n c w.drew := h.go ((Below.refl _ _).drew)
theorem OV.alloc (h : OV w0 p An cn Al cl Ad cd Ac cc r A n c w) (o : Obj) : OV w0 p An cn Al cl Ad cd Ac cc r A n c (w.alloc o) := h.go (below_new _ _)
theorem OV.up (h : OV w0 p An cn Al cl Ad cd Ac cc r A n c w) : Below w0.heap.size w0 w := h.pr.up
theorem OV.new (h : PAt w p p.proto p.cap p.k An p.nodes.length Al p.links.length Ad p.dests.length Ac p.checks.length) (hr : RtAt w r A n) : OV w p An cn Al cl Ad cd Ac cc r A n c (((w.alloc (.cells #[.int .i64 p.proto, .int .i64 p.cap, .int .i64 p.k, .slice An p.nodes.length cn, .slice Al p.links.length cl, .slice Ad p.dests.length cd, .slice Ac p.checks.length cc] 29)).alloc (.cells #[.int .i64 r.kind, .int .i64 r.cost, .slice A n c] 42)).alloc (.cells #[.int .i64 0, .int .i64 0, .slice Option.none 0 0] 42)) :=
  ⟨(PR.new h hr).alloc _, by simpa using Blk.new ((w.alloc (.cells #[.int .i64 p.proto, .int .i64 p.cap, .int .i64 p.k, .slice An p.nodes.length cn, .slice Al p.links.length cl, .slice Ad p.dests.length cd, .slice Ac p.checks.length cc] 29)).alloc (.cells #[.int .i64 r.kind, .int .i64 r.cost, .slice A n c] 42)) 42 #[.int .i64 0, .int .i64 0, .slice Option.none 0 0]⟩
theorem OV.rcells (h : OV w0 p An cn Al cl Ad cd Ac cc r A n c w) : (w.cell? ⟨w0.heap.size + 1 + 1, 0, none⟩ = some (.int .i64 0) ∧ w.cell? ⟨w0.heap.size + 1 + 1, 1, none⟩ = some (.int .i64 0) ∧ w.cell? ⟨w0.heap.size + 1 + 1, 2, none⟩ = some (.slice none 0 0)) ∧ w.frozen? ⟨w0.heap.size + 1 + 1, 0, none⟩ = false ∧ w.frozen? ⟨w0.heap.size + 1 + 1, 1, none⟩ = false ∧ w.frozen? ⟨w0.heap.size + 1 + 1, 2, none⟩ = false := ⟨⟨h.res.cell 0, h.res.cell 1, h.res.cell 2⟩, h.res.frozen 0, h.res.frozen 1, h.res.frozen 2⟩
end
end Go.Proofs.Ytlfdpfkimggeoaa
