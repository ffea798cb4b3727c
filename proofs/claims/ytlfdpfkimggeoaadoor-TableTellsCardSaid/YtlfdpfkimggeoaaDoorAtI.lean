/-
  Lists of routes in memory; the best of them; append with whatever source.
-/
import Derived.Maps.AppendAt
import Derived.Deep.MidRow
import Derived.Deep.DeepCutAuto
import Derived.Test.YtlfdpfkimggeoaaDoorApp
import Derived.Test.YtlfdpfkimggeoaaDoorAtH
namespace Go.Proofs.YtlfdpfkimggeoaaDoor
open Go.RowKit
set_option linter.unusedVariables false
set_option linter.unusedSimpArgs false

theorem numInfoA : (Tryd.prog.info? 3).map (fun i => (i.zero, i.size, i.bytes)) = some (some (.int .i64 0), 1, 8) := by kernel_rfl

/-! ### Lists of routes -/
def rtC (x : Rt × (Option Addr × Nat)) : List Value := [.int .i64 x.1.kind, .int .i64 x.1.cost, .slice x.2.1 x.1.path.length x.2.2]
theorem rtC_len (l : List (Rt × (Option Addr × Nat))) : (l.flatMap rtC).length = l.length * 3 := rows_len rtC 3 (fun _ => rfl) l
/-- Routes in memory: a row of kinds, costs and slices, each slice with its numbers. -/
def RtsAt (w : World) (A : Option Addr) (l : List Rt) : Prop :=
  ∃ hs : List (Option Addr × Nat), hs.length = l.length ∧ CellsAt w w.heap.size A ((l.zip hs).flatMap rtC) ∧ ∀ (i : Nat) (r : Rt) (h : Option Addr × Nat), l[i]? = some r → hs[i]? = some h → RtAt w r h.1 r.path.length
theorem RtsAt.nil (w : World) (A : Option Addr) : RtsAt w A [] := ⟨[], rfl, CellsAt.nil _ _ _, fun i r h e => by simp at e⟩
theorem RtsAt.on {w w' : World} {A : Option Addr} {l : List Rt} (h : RtsAt w A l) (hb : Below w.heap.size w w') : RtsAt w' A l := by
  obtain ⟨hs, h1, h2, h3⟩ := h
  exact ⟨hs, h1, h2.on hb, fun i r q e1 e2 => (h3 i r q e1 e2).on hb⟩
theorem RtsAt.get {w : World} {A : Option Addr} {l : List Rt} (h : RtsAt w A l) {k : Nat} {r : Rt} (hk : l[k]? = some r) :
    ∃ ad Ao c, A = some ad ∧ ad.block < w.heap.size ∧ w.cell? (ad.add (k * 3)) = some (.int .i64 r.kind) ∧ w.cell? ⟨(ad.add (k * 3)).block, (ad.add (k * 3)).off + 1, none⟩ = some (.int .i64 r.cost) ∧ w.cell? ⟨(ad.add (k * 3)).block, (ad.add (k * 3)).off + 2, none⟩ = some (.slice Ao r.path.length c) ∧ RtAt w r Ao r.path.length := by
  obtain ⟨hs, h1, h2, h3⟩ := h
  have hlt := (List.getElem?_eq_some_iff.1 hk).1
  obtain ⟨q, hq⟩ : ∃ q, hs[k]? = some q := ⟨_, List.getElem?_eq_getElem (by omega)⟩
  have hz : (l.zip hs)[k]? = some (r, q) := by rw [List.getElem?_zip_eq_some]; exact ⟨hk, hq⟩
  have hr := rows_at rtC 3 (fun _ => rfl) (l.zip hs) k (r, q) hz
  have hne : (l.zip hs).flatMap rtC ≠ [] := by
    intro e
    have := hr 0 _ rfl
    rw [e] at this
    simp at this
  obtain ⟨ad, hA, hb, hc⟩ := h2 hne
  have c0 := hc _ _ (hr 0 _ rfl)
  have c1 := hc _ _ (hr 1 _ rfl)
  have c2 := hc _ _ (hr 2 _ rfl)
  rw [Nat.add_zero] at c0
  rw [← add_of_add] at c1 c2
  exact ⟨ad, q.1, q.2, hA, hb, c0, c1, c2, h3 k r q hk hq⟩

/-! ### The best of a list -/
def rtBestF (b : Rt) : List Rt → Rt
  | [] => b
  | r :: l => rtBestF (if rtBetter r b = true then r else b) l
def rtBest : List Rt → Rt
  | [] => Rt.none
  | r :: l => rtBestF r l
theorem rtBestF_snoc (b : Rt) (l : List Rt) (r : Rt) : rtBestF b (l ++ [r]) = if rtBetter r (rtBestF b l) = true then r else rtBestF b l := by
  induction l generalizing b with
  | nil => rfl
  | cons x l ih => exact ih _
theorem rtBest_take {l : List Rt} {k : Nat} {r : Rt} (hk : l[k]? = some r) : rtBest (l.take (k + 1)) = if k = 0 then r else if rtBetter r (rtBest (l.take k)) = true then r else rtBest (l.take k) := by
  cases l with
  | nil => simp at hk
  | cons x l =>
    cases k with
    | zero => simp at hk; subst hk; simp [rtBest, rtBestF]
    | succ k =>
      rw [if_neg (by omega), List.take_succ_cons, List.take_succ_cons]
      have hk' : l[k]? = some r := by simpa using hk
      rw [List.take_add_one, hk']
      exact rtBestF_snoc x (l.take k) r
theorem rtBest_mem {l : List Rt} (h : l ≠ []) : rtBest l ∈ l := by
  cases l with
  | nil => exact absurd rfl h
  | cons x l =>
    have : ∀ (b : Rt) (l : List Rt), rtBestF b l = b ∨ rtBestF b l ∈ l := by
      intro b l
      induction l generalizing b with
      | nil => exact .inl rfl
      | cons y l ih =>
        show rtBestF (if rtBetter y b = true then y else b) l = b ∨ _
        rcases ih (if rtBetter y b = true then y else b) with e | e
        · by_cases hy : rtBetter y b = true
          · rw [if_pos hy] at e
            exact .inr (by show rtBestF (if rtBetter y b = true then y else b) l ∈ y :: l; rw [if_pos hy, e]; simp)
          · rw [if_neg hy] at e
            exact .inl (by rw [if_neg hy, e])
        · exact .inr (List.mem_cons_of_mem _ e)
    rcases this x l with e | e
    · exact (by rw [show rtBest (x :: l) = rtBestF x l from rfl, e]; simp)
    · exact List.mem_cons_of_mem _ e
/-- A route handed out: its numbers are new memory. -/
def RtGives (r : Rt) (w : World) (e : Ending) (w' : World) : Prop :=
  ∃ A c, e = .returned (.agg #[.int .i64 r.kind, .int .i64 r.cost, .slice A r.path.length c]) ∧ w'.ownsRow w.heap.size 3 1 (.slice A r.path.length c) r.path.length (r.path.map (Value.int .i64)) ∧ r.path.length ≤ c ∧ Below w.heap.size w w'
theorem RtGives.at_ {r : Rt} {w w' : World} {A : Option Addr} {c B : Nat} (h : w'.ownsRow B 3 1 (.slice A r.path.length c) r.path.length (r.path.map (Value.int .i64))) (hm : r.path.length ≤ 9223372036854775807) : RtAt w' r A r.path.length :=
  ⟨rfl, (RowAt.of_own h).cells, hm⟩
end Go.Proofs.YtlfdpfkimggeoaaDoor
