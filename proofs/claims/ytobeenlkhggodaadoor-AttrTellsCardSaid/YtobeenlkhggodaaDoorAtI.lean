/-
  Lists of routes in memory; the best of them; append with whatever source.
-/
import Derived.Maps.AppendAt
import Derived.Deep.MidRow
import Derived.Deep.DeepCutAuto
import Derived.Test.YtobeenlkhggodaaDoorAtH
namespace Go.Proofs.YtobeenlkhggodaaDoor
open Go.RowKit
set_option linter.unusedVariables false
set_option linter.unusedSimpArgs false

/-! ### append(row of the call's own, a slice ...) -/
section
variable {P : Program} (w : World)
theorem run_append_none (base : Nat) (t ty e : TypeId) (i : TypeInfo) (size : Nat) (ht : P.underlying t = some (.slice e)) (hi : P.info? e = some i)
    (v : Value) (n : Nat) (xs : List Value) (hown : w.ownsRow base e size v n xs) (c : Nat) : (Builtin.append_ #[t, t] ty #[v, .slice none 0 c]).run P w = .ok v w := by
  rcases hown.2 with ⟨rfl, rfl⟩ | ⟨g, cap, cur, rfl, _, _, hnc, _⟩
  · simp [Builtin.append_, run_underlying ht, sizeOf, typeInfo, hi, Builtin.lenOf, Builtin.firstCells]
  · simp [Builtin.append_, run_underlying ht, sizeOf, typeInfo, hi, Builtin.lenOf, Builtin.firstCells, hnc, storeCells]
theorem run_append_cells (base : Nat) (t ty e : TypeId) (i : TypeInfo) (z : Value) (size bytes : Nat) (ht : P.underlying t = some (.slice e)) (hi : P.info? e = some i) (hz : i.zero = some z)
    (hsize : i.size = size) (hby : i.bytes = bytes) (hzs : z.cells.size = size) (hsz : 0 < size)
    (v : Value) (n : Nat) (xs : List Value) (hown : w.ownsRow base e size v n xs)
    (B : Nat) (A : Option Addr) (m c : Nat) (news : List Value) (hl : news.length = m * size) (hr : CellsAt w B A news) (h1 : ∀ u ∈ news, u.oneCell' = true) (hb : n + m ≤ 1000000) (hb2 : (n + m) * bytes ≤ 140737488355328) (hbase : base ≤ w.heap.size) :
    ∃ v' w', (Builtin.append_ #[t, t] ty #[v, .slice A m c]).run P w = .ok v' w' ∧ w'.ownsRow base e size v' (n + m) (xs ++ news) ∧ w.grownBy w' v.ownBlock := by
  cases news with
  | nil =>
    have hm : m = 0 := by
      rcases Nat.eq_zero_or_pos m with h | h
      · exact h
      · have := Nat.mul_pos h hsz; simp at hl; omega
    subst hm
    rcases A with _ | ad
    · exact ⟨v, w, run_append_none w base t ty e i size ht hi v n xs hown c, by simpa using hown, World.grownBy.refl w _⟩
    · obtain ⟨v', w', hrun, h2, h3, _, h5⟩ := run_append_own_at (P := P) w base t ty e i z size bytes ht hi hz hsize hby hzs hsz v n xs hown ad 0 c [] (by simp) (fun j u hu => by simp at hu) (fun u hu => by simp at hu) (by unfold maxLen; omega) (by simpa using hb2) hbase
      exact ⟨v', w', hrun, by simpa using h2, h3⟩
  | cons x l =>
    obtain ⟨ad, rfl, _, hc⟩ := hr (by simp)
    obtain ⟨v', w', hrun, h2, h3, _, h5⟩ := run_append_own_at (P := P) w base t ty e i z size bytes ht hi hz hsize hby hzs hsz v n xs hown ad m c (x :: l) hl hc h1 (by unfold maxLen; omega) hb2 hbase
    exact ⟨v', w', hrun, h2, h3⟩
theorem wpList_append_cells {ops : Array Oper} {rest : List Oper} {o : Oper} {a : Act} {Q : Exit → Act → World → Prop} (hgd : o.guard = none) (s x : Operand) (t : TypeId)
    (ho : o.op = .call { callee := .builtin .append, args := #[s, x], argTypes := #[t, t] })
    (base : Nat) (e : TypeId) (i : TypeInfo) (z : Value) (size bytes : Nat) (ht : P.underlying t = some (.slice e)) (hi : P.info? e = some i) (hz : i.zero = some z)
    (hsize : i.size = size) (hby : i.bytes = bytes) (hzs : z.cells.size = size) (hsz : 0 < size)
    (v : Value) (n : Nat) (xs : List Value) (hs : a.eval s = v) (hown : w.ownsRow base e size v n xs)
    (B : Nat) (A : Option Addr) (m c : Nat) (news : List Value) (hx : a.eval x = .slice A m c) (hl : news.length = m * size) (hr : CellsAt w B A news) (h1 : ∀ u ∈ news, u.oneCell' = true) (hb : n + m ≤ 1000000) (hb2 : (n + m) * bytes ≤ 140737488355328) (hbase : base ≤ w.heap.size)
    (h : ∀ v' w', w'.ownsRow base e size v' (n + m) (xs ++ news) → w.grownBy w' v.ownBlock → wpList P ops Q rest (a.put o.dst v') w') : wpList P ops Q (o :: rest) a w := by
  refine wpList_plain hgd fun K hK => ?_
  obtain ⟨v', w', hr', h2, h3⟩ := run_append_cells (P := P) w base t o.type e i z size bytes ht hi hz hsize hby hzs hsz v n xs hown B A m c news hl hr h1 hb hb2 hbase
  unfold Oper.wp execOp
  simp only [ho, resolve, invoke, builtin, Sem.run_bind, Sem.run_pure, Result.andThen_ok, List.map_toArray, List.map_cons, List.map_nil, hs, hx, hr']
  exact hK _ _ (h v' w' h2 h3)
end

theorem numInfoA : (Tryd.prog.info? 3).map (fun i => (i.zero, i.size, i.bytes)) = some (some (.int .i64 0), 1, 8) := by kernel_rfl

theorem own_setA {w : World} {base : Nat} {e : TypeId} {size : Nat} {v : Value} {n : Nat} {xs : List Value} (h : w.ownsRow base e size v n xs) {g : Nat} {t : TypeId} {cs : Array Value} (hb : Blk w g t cs) (hne : e ≠ t) (i : Nat) (u : Value) : (w.setCell ⟨g, i, none⟩ u).ownsRow base e size v n xs := by
  refine h.kept (row := some g) ⟨rfl, rfl, rfl, by simp [World.setCell], fun k _ hk => Below.heap_setCell w ⟨g, i, none⟩ u k (fun e1 => hk (by rw [e1]))⟩ ?_
  cases hv : v.ownBlock with
  | none => exact .inl rfl
  | some g' => exact .inr (fun e1 => own_blk_ne h hb hne (by rw [hv]; exact e1))


/-! ### Lists of routes -/
def rtC (x : Rt × (Option Addr × Nat)) : List Value := [.int .i64 x.1.kind, .int .i64 x.1.cost, .slice x.2.1 x.1.path.length x.2.2]
theorem rtC_len (l : List (Rt × (Option Addr × Nat))) : (l.flatMap rtC).length = l.length * 3 := rows_len rtC 3 (fun _ => rfl) l
/-- Routes in memory: a row of kinds, costs and slices, each slice with its numbers. -/
def RtsAt (w : World) (A : Option Addr) (l : List Rt) : Prop :=
  ∃ hs : List (Option Addr × Nat), hs.length = l.length ∧ CellsAt w w.heap.size A ((l.zip hs).flatMap rtC) ∧ ∀ (i : Nat) (r : Rt) (h : Option Addr × Nat), l[i]? = some r → hs[i]? = some h → RtAt w r h.1 r.path.length
theorem RtsAt.nil (w : World) (A : Option Addr) : RtsAt w A [] := ⟨[], rfl, CellsAt.nil _ _ _, fun i r h e => by simp at e⟩
theorem RtsAt.on {w w' : World} {A : Option Addr} {l : List Rt} (h : RtsAt w A l) (hb : Below w.heap.size w w') : RtsAt w' A l := by
  obtain ⟨hs, h1, h2, h3⟩ := h
  exact ⟨hs, h1, h2.on hb, fun i r q e1 e2 => (h3 i r q e1 e2).on hb⟩
theorem RtsAt.get {w : World} {A : Option Addr} {l : List Rt} (h : RtsAt w A l) {k : Nat} {r : Rt} (hk : l[k]? = some r) :
    ∃ ad Ao c, A = some ad ∧ ad.block < w.heap.size ∧ w.cell? (ad.add (k * 3)) = some (.int .i64 r.kind) ∧ w.cell? ⟨(ad.add (k * 3)).block, (ad.add (k * 3)).off + 1, none⟩ = some (.int .i64 r.cost) ∧ w.cell? ⟨(ad.add (k * 3)).block, (ad.add (k * 3)).off + 2, none⟩ = some (.slice Ao r.path.length c) ∧ RtAt w r Ao r.path.length := by
  obtain ⟨hs, h1, h2, h3⟩ := h
  have hlt := (List.getElem?_eq_some_iff.1 hk).1
  obtain ⟨q, hq⟩ : ∃ q, hs[k]? = some q := ⟨_, List.getElem?_eq_getElem (by omega)⟩
  have hz : (l.zip hs)[k]? = some (r, q) := by rw [List.getElem?_zip_eq_some]; exact ⟨hk, hq⟩
  have hr := rows_at rtC 3 (fun _ => rfl) (l.zip hs) k (r, q) hz
  have hne : (l.zip hs).flatMap rtC ≠ [] := by
    intro e
    have := hr 0 _ rfl
    rw [e] at this
    simp at this
  obtain ⟨ad, hA, hb, hc⟩ := h2 hne
  have c0 := hc _ _ (hr 0 _ rfl)
  have c1 := hc _ _ (hr 1 _ rfl)
  have c2 := hc _ _ (hr 2 _ rfl)
  rw [Nat.add_zero] at c0
  rw [← add_of_add] at c1 c2
  exact ⟨ad, q.1, q.2, hA, hb, c0, c1, c2, h3 k r q hk hq⟩

/-! ### The best of a list -/
def rtBestF (b : Rt) : List Rt → Rt
  | [] => b
  | r :: l => rtBestF (if rtBetter r b = true then r else b) l
def rtBest : List Rt → Rt
  | [] => Rt.none
  | r :: l => rtBestF r l
theorem rtBestF_snoc (b : Rt) (l : List Rt) (r : Rt) : rtBestF b (l ++ [r]) = if rtBetter r (rtBestF b l) = true then r else rtBestF b l := by
  induction l generalizing b with
  | nil => rfl
  | cons x l ih => exact ih _
theorem rtBest_take {l : List Rt} {k : Nat} {r : Rt} (hk : l[k]? = some r) : rtBest (l.take (k + 1)) = if k = 0 then r else if rtBetter r (rtBest (l.take k)) = true then r else rtBest (l.take k) := by
  cases l with
  | nil => simp at hk
  | cons x l =>
    cases k with
    | zero => simp at hk; subst hk; simp [rtBest, rtBestF]
    | succ k =>
      rw [if_neg (by omega), List.take_succ_cons, List.take_succ_cons]
      have hk' : l[k]? = some r := by simpa using hk
      rw [List.take_add_one, hk']
      exact rtBestF_snoc x (l.take k) r
theorem rtBest_mem {l : List Rt} (h : l ≠ []) : rtBest l ∈ l := by
  cases l with
  | nil => exact absurd rfl h
  | cons x l =>
    have : ∀ (b : Rt) (l : List Rt), rtBestF b l = b ∨ rtBestF b l ∈ l := by
      intro b l
      induction l generalizing b with
      | nil => exact .inl rfl
      | cons y l ih =>
        show rtBestF (if rtBetter y b = true then y else b) l = b ∨ _
        rcases ih (if rtBetter y b = true then y else b) with e | e
        · by_cases hy : rtBetter y b = true
          · rw [if_pos hy] at e
            exact .inr (by show rtBestF (if rtBetter y b = true then y else b) l ∈ y :: l; rw [if_pos hy, e]; simp)
          · rw [if_neg hy] at e
            exact .inl (by rw [if_neg hy, e])
        · exact .inr (List.mem_cons_of_mem _ e)
    rcases this x l with e | e
    · exact (by rw [show rtBest (x :: l) = rtBestF x l from rfl, e]; simp)
    · exact List.mem_cons_of_mem _ e
/-- A route handed out: its numbers are new memory. -/
def RtGives (r : Rt) (w : World) (e : Ending) (w' : World) : Prop :=
  ∃ A c, e = .returned (.agg #[.int .i64 r.kind, .int .i64 r.cost, .slice A r.path.length c]) ∧ w'.ownsRow w.heap.size 3 1 (.slice A r.path.length c) r.path.length (r.path.map (Value.int .i64)) ∧ r.path.length ≤ c ∧ Below w.heap.size w w'
theorem RtGives.at_ {r : Rt} {w w' : World} {A : Option Addr} {c B : Nat} (h : w'.ownsRow B 3 1 (.slice A r.path.length c) r.path.length (r.path.map (Value.int .i64))) (hm : r.path.length ≤ 9223372036854775807) : RtAt w' r A r.path.length :=
  ⟨rfl, (RowAt.of_own h).cells, hm⟩
end Go.Proofs.YtobeenlkhggodaaDoor
