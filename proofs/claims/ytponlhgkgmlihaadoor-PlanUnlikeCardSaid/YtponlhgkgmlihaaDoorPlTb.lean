/-
  A network's text tells it: lines, words, things.
-/
import Derived.Test.YtponlhgkgmlihaaDoorPlTa
namespace Go.Proofs.YtponlhgkgmlihaaDoor
set_option linter.unusedVariables false

theorem word_cut {x y r s : List UInt8} {c d : UInt8} (hx : x.all parB = true) (hy : y.all parB = true) (hc : parB c = false) (hd : parB d = false) (h : x ++ c :: r = y ++ d :: s) : x = y ∧ c = d ∧ r = s := by
  obtain ⟨_, e2, e3⟩ := run_full x c r hx hc
  obtain ⟨_, f2, f3⟩ := run_full y d s hy hd
  rw [h, f2] at e2
  rw [h, f3] at e3
  injection e3 with e4 e5
  exact ⟨e2.symm, e4.symm, e5.symm⟩
def PWords (xs : List (List UInt8)) : Prop := xs ≠ [] ∧ ∀ x ∈ xs, x.all parB = true
theorem PWords.tail {x y : List UInt8} {r : List (List UInt8)} (h : PWords (x :: y :: r)) : PWords (y :: r) := ⟨by simp, fun z hz => h.2 z (List.mem_cons_of_mem _ hz)⟩
theorem line_cut : ∀ (xs ys : List (List UInt8)) (r s : List UInt8), PWords xs → PWords ys → lineB xs ++ r = lineB ys ++ s → xs = ys ∧ r = s
  | [], _, _, _, h, _, _ => absurd rfl h.1
  | _ :: _, [], _, _, _, h, _ => absurd rfl h.1
  | [x], [y], r, s, hx, hy, h => by
    rw [line_one, line_one] at h
    obtain ⟨e, _, e2⟩ := word_cut (hx.2 x (by simp)) (hy.2 y (by simp)) rfl rfl h
    injection e2 with _ e3
    exact ⟨by rw [e], e3⟩
  | [x], y :: z :: t, r, s, hx, hy, h => by
    rw [line_one, line_more] at h
    obtain ⟨_, e, _⟩ := word_cut (hx.2 x (by simp)) (hy.2 y (by simp)) rfl rfl h
    exact absurd e (by decide)
  | x :: z :: t, [y], r, s, hx, hy, h => by
    rw [line_one, line_more] at h
    obtain ⟨_, e, _⟩ := word_cut (hx.2 x (by simp)) (hy.2 y (by simp)) rfl rfl h
    exact absurd e (by decide)
  | x :: z :: t, y :: z' :: t', r, s, hx, hy, h => by
    rw [line_more, line_more] at h
    obtain ⟨e, _, e2⟩ := word_cut (hx.2 x (by simp)) (hy.2 y (by simp)) rfl rfl h
    obtain ⟨e3, e4⟩ := line_cut (z :: t) (z' :: t') r s hx.tail hy.tail e2
    exact ⟨by rw [e, e3], e4⟩
theorem line_ne (xs : List (List UInt8)) (r : List UInt8) : lineB xs ++ r ≠ [] := by unfold lineB; simp
theorem lines_cut : ∀ (L M : List (List (List UInt8))), (∀ xs ∈ L, PWords xs) → (∀ xs ∈ M, PWords xs) → L.flatMap lineB = M.flatMap lineB → L = M
  | [], [], _, _, _ => rfl
  | [], ys :: M, _, _, h => by rw [List.flatMap_cons] at h; exact absurd h.symm (line_ne _ _)
  | xs :: L, [], _, _, h => by rw [List.flatMap_cons] at h; exact absurd h (line_ne _ _)
  | xs :: L, ys :: M, hL, hM, h => by
    rw [List.flatMap_cons, List.flatMap_cons] at h
    obtain ⟨e, e2⟩ := line_cut xs ys _ _ (hL xs (by simp)) (hM ys (by simp)) h
    rw [e, lines_cut L M (fun z hz => hL z (List.mem_cons_of_mem _ hz)) (fun z hz => hM z (List.mem_cons_of_mem _ hz)) e2]
theorem part {α : Type} (P : α → Prop) : ∀ (a b r s : List α), (∀ x ∈ a, P x) → (∀ x ∈ b, P x) → (∀ x ∈ r, ¬ P x) → (∀ x ∈ s, ¬ P x) → a ++ r = b ++ s → a = b ∧ r = s
  | [], [], r, s, _, _, _, _, h => ⟨rfl, h⟩
  | [], y :: b, r, s, _, hb, hr, _, h => by
    have h' : r = y :: (b ++ s) := h
    exact absurd (hb y (by simp)) (hr y (by rw [h']; simp))
  | x :: a, [], r, s, ha, _, _, hs, h => by
    have h' : x :: (a ++ r) = s := h
    exact absurd (ha x (by simp)) (hs x (by rw [← h']; simp))
  | x :: a, y :: b, r, s, ha, hb, hr, hs, h => by
    rw [List.cons_append, List.cons_append] at h
    injection h with h1 h2
    obtain ⟨e1, e2⟩ := part P a b r s (fun z hz => ha z (List.mem_cons_of_mem _ hz)) (fun z hz => hb z (List.mem_cons_of_mem _ hz)) hr hs h2
    exact ⟨by rw [h1, e1], e2⟩
theorem map_inj_on {α β : Type} (f g : α → β) : ∀ (a b : List α), (∀ x ∈ a, ∀ y ∈ b, f x = g y → x = y) → a.map f = b.map g → a = b
  | [], [], _, _ => rfl
  | [], y :: b, _, h => by simp at h
  | x :: a, [], _, h => by simp at h
  | x :: a, y :: b, hi, h => by
    rw [List.map_cons, List.map_cons] at h
    injection h with h1 h2
    rw [hi x (by simp) y (by simp) h1, map_inj_on f g a b (fun z hz w hw => hi z (List.mem_cons_of_mem _ hz) w (List.mem_cons_of_mem _ hw)) h2]

/-! ### A network's lines -/
def linesP (p : PPlan) : List (List ByteArray) := protoW p.proto p.cap :: failW p.k :: (p.nodes.map nodeW ++ (p.links.map (linkW p.nodes) ++ (p.dests.map (destW p.nodes) ++ p.checks.map (checkW p.nodes p.dests))))
theorem text_lines (p : PPlan) : textB p = ((linesP p).map (List.map (fun x : ByteArray => x.data.toList))).flatMap lineB := by
  unfold textB linesP
  rw [List.flatMap_map]
  simp only [List.flatMap_cons, List.flatMap_append, List.flatMap_map]
  rfl
theorem bytes_inj (x y : ByteArray) (h : x.data.toList = y.data.toList) : x = y := by
  obtain ⟨⟨x⟩⟩ := x
  obtain ⟨⟨y⟩⟩ := y
  exact congrArg _ (congrArg _ h)
theorem LOk.pw {xs : List ByteArray} (h : LOk xs) : PWords (xs.map (fun x : ByteArray => x.data.toList)) :=
  ⟨by simpa using h.1, fun y hy => by
    obtain ⟨x, hx, rfl⟩ := List.mem_map.1 hy
    exact (h.2.2 x hx).1⟩
theorem lines_all {p : PPlan} (hk : NetOk p) : ∀ xs ∈ linesP p, LOk xs := by
  obtain ⟨l1, l2, l3, l4, l5, l6⟩ := lines_ok hk
  intro xs hx
  unfold linesP at hx
  simp only [List.mem_cons, List.mem_append, List.mem_map] at hx
  rcases hx with rfl | rfl | ⟨y, hy, rfl⟩ | ⟨y, hy, rfl⟩ | ⟨y, hy, rfl⟩ | ⟨y, hy, rfl⟩
  · exact l1
  · exact l2
  · exact l3 y hy
  · exact l4 y hy
  · exact l5 y hy
  · exact l6 y hy
theorem lines_eq {p q : PPlan} (hp : NetOk p) (hq : NetOk q) (h : textB p = textB q) : linesP p = linesP q := by
  rw [text_lines, text_lines] at h
  have h2 := lines_cut _ _ (fun xs hx => by
    obtain ⟨y, hy, rfl⟩ := List.mem_map.1 hx
    exact (lines_all hp y hy).pw) (fun xs hx => by
    obtain ⟨y, hy, rfl⟩ := List.mem_map.1 hx
    exact (lines_all hq y hy).pw) h
  exact map_inj_on _ _ _ _ (fun x _ y _ e => map_inj_on _ _ _ _ (fun u _ v _ e2 => bytes_inj u v e2) e) h2

/-! ### Things -/
theorem decW_inj {a b : Int} (ha : ∃ i : Nat, a = i ∧ i < 100) (hb : ∃ i : Nat, b = i ∧ i < 100) (h : decW a = decW b) : a = b := by
  obtain ⟨i, rfl, hi⟩ := ha
  obtain ⟨j, rfl, hj⟩ := hb
  have h1 : Lib.decDigits (i : Int).toNat = Lib.decDigits (j : Int).toNat := congrArg (fun x : ByteArray => x.data.toList) h
  rw [Int.toNat_natCast, Int.toNat_natCast, dec_digits 20 i (by omega) (by omega), dec_digits 20 j (by omega) (by omega)] at h1
  have h2 := (dec_num i (by omega)).1
  have h3 := (dec_num j (by omega)).1
  unfold decB at h2 h3
  rw [h1, h3] at h2
  exact h2.symm
section
variable {p : PPlan} (hk : NetOk p)
include hk
theorem nm_inj {a b : Int} (ha : ∃ i : Nat, a = i ∧ i < p.nodes.length) (hb : ∃ i : Nat, b = i ∧ i < p.nodes.length) (h : nmB p.nodes a = nmB p.nodes b) : a = b := by
  obtain ⟨i, rfl, hi⟩ := ha
  obtain ⟨j, rfl, hj⟩ := hb
  obtain ⟨x, hx⟩ : ∃ x, p.nodes[i]? = some x := ⟨_, List.getElem?_eq_getElem hi⟩
  obtain ⟨y, hy⟩ : ∃ y, p.nodes[j]? = some y := ⟨_, List.getElem?_eq_getElem hj⟩
  rw [nm_is hx, nm_is hy] at h
  rw [← (hk.node i x hx).1, ← (hk.node j y hy).1, h]
theorem dn_inj {a b : Int} (ha : ∃ i : Nat, a = i ∧ i < p.dests.length) (hb : ∃ i : Nat, b = i ∧ i < p.dests.length) (h : dnB p.dests a = dnB p.dests b) : a = b := by
  obtain ⟨i, rfl, hi⟩ := ha
  obtain ⟨j, rfl, hj⟩ := hb
  obtain ⟨x, hx⟩ : ∃ x, p.dests[i]? = some x := ⟨_, List.getElem?_eq_getElem hi⟩
  obtain ⟨y, hy⟩ : ∃ y, p.dests[j]? = some y := ⟨_, List.getElem?_eq_getElem hj⟩
  rw [dn_is hx, dn_is hy] at h
  rw [← (hk.dest i x hx).1, ← (hk.dest j y hy).1, h]
theorem checks_right : ∀ c ∈ p.checks, checkB p.nodes.length p.dests.length c = true := fun c hc => by
  have h := (right_parts hk.right).2.2.2.2.2
  unfold checksB at h
  rw [Bool.and_eq_true] at h
  obtain ⟨i, hi⟩ := List.getElem?_of_mem hc
  exact (allF_iff _ _ _).1 h.2 i c hi
end
end Go.Proofs.YtponlhgkgmlihaaDoor
