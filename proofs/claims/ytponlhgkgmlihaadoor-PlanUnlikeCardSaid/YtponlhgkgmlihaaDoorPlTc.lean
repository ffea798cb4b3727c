/-
  Networks of like texts are alike.
-/
import Derived.Test.YtponlhgkgmlihaaDoorPlTb
namespace Go.Proofs.YtponlhgkgmlihaaDoor
set_option linter.unusedVariables false

theorem check_head (ns : List PNode) (ds : List PDest) (c : PCheck) : (checkW ns ds c).head? = some ⟨#[99, 104, 101, 99, 107]⟩ := by
  unfold checkW
  split
  · rfl
  split
  · rfl
  split <;> rfl
def kwd (k : Int) : ByteArray := if k = 1 then ⟨#[114, 101, 97, 99, 104]⟩ else if k = 2 then ⟨#[119, 105, 116, 104, 105, 110]⟩ else if k = 3 then ⟨#[119, 97, 121, 112, 111, 105, 110, 116]⟩ else ⟨#[101, 113, 117, 97, 108]⟩
theorem kwd_inj {k k' : Int} (h : k = 1 ∨ k = 2 ∨ k = 3 ∨ k = 4) (h' : k' = 1 ∨ k' = 2 ∨ k' = 3 ∨ k' = 4) (e : some (kwd k) = some (kwd k')) : k = k' := by
  rcases h with rfl | rfl | rfl | rfl <;> rcases h' with rfl | rfl | rfl | rfl <;> first | rfl | exact absurd e (by decide)
theorem check_kind (ns : List PNode) (ds : List PDest) (c : PCheck) : (checkW ns ds c)[1]? = some (kwd c.kind) := by
  unfold checkW kwd
  split
  · rfl
  split
  · rfl
  split <;> rfl
theorem net_parts {p q : PPlan} (h : linesP p = linesP q) : protoW p.proto p.cap = protoW q.proto q.cap ∧ failW p.k = failW q.k ∧ p.nodes.map nodeW = q.nodes.map nodeW ∧ p.links.map (linkW p.nodes) = q.links.map (linkW q.nodes) ∧ p.dests.map (destW p.nodes) = q.dests.map (destW q.nodes) ∧ p.checks.map (checkW p.nodes p.dests) = q.checks.map (checkW q.nodes q.dests) := by
  unfold linesP at h
  injection h with h1 h2
  injection h2 with h2 h3
  have hl : ∀ (ns : List PNode) l, (linkW ns l).head? = some ⟨#[108, 105, 110, 107]⟩ := fun _ _ => rfl
  have hd : ∀ (ns : List PNode) d, (destW ns d).head? = some ⟨#[100, 101, 115, 116]⟩ := fun _ _ => rfl
  have hn : ∀ n, (nodeW n).head? = some ⟨#[110, 111, 100, 101]⟩ := fun _ => rfl
  have no : ∀ (r : PPlan) (H : Option ByteArray), H ≠ some ⟨#[99, 104, 101, 99, 107]⟩ → ∀ xs ∈ r.checks.map (checkW r.nodes r.dests), ¬ xs.head? = H := by
    intro r H hH xs hx e
    obtain ⟨y, _, rfl⟩ := List.mem_map.1 hx
    rw [check_head] at e
    exact hH e.symm
  have no2 : ∀ (r : PPlan) (H : Option ByteArray), H ≠ some ⟨#[99, 104, 101, 99, 107]⟩ → H ≠ some ⟨#[100, 101, 115, 116]⟩ → ∀ xs ∈ r.dests.map (destW r.nodes) ++ r.checks.map (checkW r.nodes r.dests), ¬ xs.head? = H := by
    intro r H hH hH2 xs hx e
    rcases List.mem_append.1 hx with hx | hx
    · obtain ⟨y, _, rfl⟩ := List.mem_map.1 hx
      rw [hd] at e
      exact hH2 e.symm
    · exact no r H hH xs hx e
  have no3 : ∀ (r : PPlan) (H : Option ByteArray), H ≠ some ⟨#[99, 104, 101, 99, 107]⟩ → H ≠ some ⟨#[100, 101, 115, 116]⟩ → H ≠ some ⟨#[108, 105, 110, 107]⟩ → ∀ xs ∈ r.links.map (linkW r.nodes) ++ (r.dests.map (destW r.nodes) ++ r.checks.map (checkW r.nodes r.dests)), ¬ xs.head? = H := by
    intro r H hH hH2 hH3 xs hx e
    rcases List.mem_append.1 hx with hx | hx
    · obtain ⟨y, _, rfl⟩ := List.mem_map.1 hx
      rw [hl] at e
      exact hH3 e.symm
    · exact no2 r H hH hH2 xs hx e
  have yes : ∀ {α : Type} (f : α → List ByteArray) (H : Option ByteArray) (l : List α), (∀ a, (f a).head? = H) → ∀ xs ∈ l.map f, xs.head? = H := by
    intro α f H l hf xs hx
    obtain ⟨y, _, rfl⟩ := List.mem_map.1 hx
    exact hf y
  obtain ⟨k1, h4⟩ := part (fun xs : List ByteArray => xs.head? = some ⟨#[110, 111, 100, 101]⟩) _ _ _ _ (yes nodeW _ _ hn) (yes nodeW _ _ hn) (no3 p _ (by decide) (by decide) (by decide)) (no3 q _ (by decide) (by decide) (by decide)) h3
  obtain ⟨k2, h5⟩ := part (fun xs : List ByteArray => xs.head? = some ⟨#[108, 105, 110, 107]⟩) _ _ _ _ (yes _ _ _ (hl p.nodes)) (yes _ _ _ (hl q.nodes)) (no2 p _ (by decide) (by decide)) (no2 q _ (by decide) (by decide)) h4
  obtain ⟨k3, h6⟩ := part (fun xs : List ByteArray => xs.head? = some ⟨#[100, 101, 115, 116]⟩) _ _ _ _ (yes _ _ _ (hd p.nodes)) (yes _ _ _ (hd q.nodes)) (no p _ (by decide)) (no q _ (by decide)) h5
  exact ⟨h1, h2, k1, k2, k3, h6⟩
theorem proto_cases {a b : Int} (h : protoB a b = true) : (a = 1 ∧ b = 0) ∨ a = 2 := by
  unfold protoB at h
  by_cases h1 : a = 1
  · rw [if_pos h1] at h
    exact .inl ⟨h1, by simpa using h⟩
  · rw [if_neg h1] at h
    by_cases h2 : a = 2
    · exact .inr h2
    · rw [if_neg h2] at h; simp at h
theorem check_zero {n d : Nat} {c : PCheck} (h : checkB n d c = true) : (c.kind ≠ 2 → c.limit = 0) ∧ (c.kind ≠ 3 → c.kind ≠ 4 → c.other = 0) := by
  unfold checkB at h
  split at h
  · simp only [Bool.and_eq_true] at h
    obtain ⟨_, _, h1, h2⟩ := h
    unfold withinB at h1 h2
    simp only [Bool.and_eq_true, decide_eq_true_eq] at h1 h2
    refine ⟨fun hk => ?_, fun hk hk2 => ?_⟩
    · unfold limB at h1; rw [if_neg hk] at h1; omega
    · unfold othB at h2
      rw [if_neg (by rintro (h | h) <;> contradiction)] at h2
      omega
  · simp at h
theorem check_inj {q : PPlan} (hq : NetOk q) {c c' : PCheck} (hb : checkB q.nodes.length q.dests.length c = true) (hb' : checkB q.nodes.length q.dests.length c' = true)
    (ht : (c.kind = 1 ∨ c.kind = 2 ∨ c.kind = 3 ∨ c.kind = 4) ∧ ∃ n d li o : Nat, c.node = n ∧ c.dest = d ∧ c.limit = li ∧ c.other = o ∧ n < q.nodes.length ∧ d < q.dests.length ∧ o < q.nodes.length ∧ li < 100)
    (ht' : (c'.kind = 1 ∨ c'.kind = 2 ∨ c'.kind = 3 ∨ c'.kind = 4) ∧ ∃ n d li o : Nat, c'.node = n ∧ c'.dest = d ∧ c'.limit = li ∧ c'.other = o ∧ n < q.nodes.length ∧ d < q.dests.length ∧ o < q.nodes.length ∧ li < 100)
    (e : checkW q.nodes q.dests c = checkW q.nodes q.dests c') : c = c' := by
  obtain ⟨k, n0, d0, l0, o0⟩ := c
  obtain ⟨k', n1, d1, l1, o1⟩ := c'
  obtain ⟨hk, n, d, li, o, e1, e2, e3, e4, h1, h2, h3, h4⟩ := ht
  obtain ⟨hk', n', d', li', o', e1', e2', e3', e4', h1', h2', h3', h4'⟩ := ht'
  have z := check_zero hb
  have z' := check_zero hb'
  have ek := (check_kind q.nodes q.dests ⟨k, n0, d0, l0, o0⟩).symm.trans ((congrArg (fun l : List ByteArray => l[1]?) e).trans (check_kind q.nodes q.dests ⟨k', n1, d1, l1, o1⟩))
  dsimp only at hk hk' e1 e2 e3 e4 e1' e2' e3' e4' z z' ek
  have hkk : k = k' := by
    exact kwd_inj hk hk' ek
  subst hkk
  have gn := fun x => nm_inj hq (a := n0) (b := n1) ⟨n, e1, h1⟩ ⟨n', e1', h1'⟩ x
  have gd := fun x => dn_inj hq (a := d0) (b := d1) ⟨d, e2, h2⟩ ⟨d', e2', h2'⟩ x
  have gl := fun x => decW_inj (a := l0) (b := l1) ⟨li, e3, h4⟩ ⟨li', e3', h4'⟩ x
  have go := fun x => nm_inj hq (a := o0) (b := o1) ⟨o, e4, h3⟩ ⟨o', e4', h3'⟩ x
  clear e1 e2 e3 e4 e1' e2' e3' e4' ek hb hb'
  rcases hk with rfl | rfl | rfl | rfl
  · simp only [checkW, if_pos, List.cons.injEq, eq_self, true_and, and_true] at e
    have y1 := z.1 (by decide)
    have y2 := z'.1 (by decide)
    have y3 := z.2 (by decide) (by decide)
    have y4 := z'.2 (by decide) (by decide)
    rw [gn e.1, gd e.2, y1, y2, y3, y4]
  · unfold checkW at e
    dsimp only at e
    rw [if_neg (by decide), if_pos rfl, if_neg (by decide), if_pos rfl] at e
    simp only [List.cons.injEq, eq_self, true_and, and_true] at e
    have y3 := z.2 (by decide) (by decide)
    have y4 := z'.2 (by decide) (by decide)
    rw [gn e.1, gd e.2.1, gl e.2.2, y3, y4]
  · unfold checkW at e
    dsimp only at e
    rw [if_neg (by decide), if_neg (by decide), if_pos rfl, if_neg (by decide), if_neg (by decide), if_pos rfl] at e
    simp only [List.cons.injEq, eq_self, true_and, and_true] at e
    have y1 := z.1 (by decide)
    have y2 := z'.1 (by decide)
    rw [gn e.1, gd e.2.1, go e.2.2, y1, y2]
  · unfold checkW at e
    dsimp only at e
    rw [if_neg (by decide), if_neg (by decide), if_neg (by decide), if_neg (by decide), if_neg (by decide), if_neg (by decide)] at e
    simp only [List.cons.injEq, eq_self, true_and, and_true] at e
    have y1 := z.1 (by decide)
    have y2 := z'.1 (by decide)
    rw [gn e.1, go e.2.1, gd e.2.2, y1, y2]
theorem text_inj {p q : PPlan} (hp : NetOk p) (hq : NetOk q) (h : textB p = textB q) : p = q := by
  obtain ⟨e1, e2, e3, e4, e5, e6⟩ := net_parts (lines_eq hp hq h)
  have hN : p.nodes = q.nodes := map_inj_on _ _ _ _ (fun x hx y hy e => by
    unfold nodeW at e
    simp only [List.cons.injEq, eq_self, true_and, and_true] at e
    have e9 := decW_inj (hp.tiny.nodes x hx) (hq.tiny.nodes y hy) e.2
    obtain ⟨n1, m1⟩ := x
    obtain ⟨n2, m2⟩ := y
    dsimp only at e e9
    rw [e.1, e9]) e3
  rw [hN] at e4 e5 e6
  have hL : p.links = q.links := map_inj_on _ _ _ _ (fun x hx y hy e => by
    obtain ⟨a, b, co, a1, a2, a3, b1, b2, b3⟩ := hp.tiny.links x hx
    obtain ⟨a', b', co', a1', a2', a3', b1', b2', b3'⟩ := hq.tiny.links y hy
    rw [hN] at b1 b2
    unfold linkW at e
    simp only [List.cons.injEq, eq_self, true_and, and_true] at e
    have g1 := nm_inj hq ⟨a, a1, b1⟩ ⟨a', a1', b1'⟩ e.1
    have g2 := nm_inj hq ⟨b, a2, b2⟩ ⟨b', a2', b2'⟩ e.2.1
    have g3 := decW_inj ⟨co, a3, b3⟩ ⟨co', a3', b3'⟩ e.2.2
    obtain ⟨x1, x2, x3⟩ := x
    obtain ⟨y1, y2, y3⟩ := y
    dsimp only at g1 g2 g3
    rw [g1, g2, g3]) e4
  have hD : p.dests = q.dests := map_inj_on _ _ _ _ (fun x hx y hy e => by
    have t1 := hp.tiny.dests x hx
    have t2 := hq.tiny.dests y hy
    rw [hN] at t1
    unfold destW at e
    simp only [List.cons_append, List.nil_append, List.cons.injEq, eq_self, true_and] at e
    have g := map_inj_on _ _ _ _ (fun a ha b hb e => nm_inj hq (t1 a ha) (t2 b hb) e) e.2
    obtain ⟨x1, x2⟩ := x
    obtain ⟨y1, y2⟩ := y
    have g0 := e.1
    dsimp only at g g0
    rw [g0, g]) e5
  rw [hD] at e6
  have hC : p.checks = q.checks := map_inj_on _ _ _ _ (fun x hx y hy e => by
    have t1 := hp.tiny.checks x hx
    have r1 := checks_right hp x hx
    rw [hN, hD] at t1 r1
    exact check_inj hq r1 (checks_right hq y hy) t1 (hq.tiny.checks y hy) e) e6
  have hK : p.k = q.k := by
    unfold failW at e2
    simp only [List.cons.injEq, eq_self, true_and, and_true] at e2
    exact decW_inj hp.tiny.k hq.tiny.k e2
  have hPC : p.proto = q.proto ∧ p.cap = q.cap := by
    rcases proto_cases (right_parts hp.right).1 with ⟨a1, a2⟩ | a1 <;> rcases proto_cases (right_parts hq.right).1 with ⟨b1, b2⟩ | b1
    · exact ⟨by rw [a1, b1], by rw [a2, b2]⟩
    · rw [a1, b1] at e1
      have := congrArg List.length e1
      simp [protoW] at this
    · rw [a1, b1] at e1
      have := congrArg List.length e1
      simp [protoW] at this
    · rw [a1, b1] at e1
      unfold protoW at e1
      rw [if_neg (by decide), if_neg (by decide)] at e1
      simp only [List.cons.injEq, eq_self, true_and, and_true] at e1
      exact ⟨by rw [a1, b1], decW_inj hp.tiny.cap hq.tiny.cap e1⟩
  clear hp hq h e1 e2 e3 e4 e5 e6
  obtain ⟨a1, a2, a3, a4, a5, a6, a7⟩ := p
  obtain ⟨b1, b2, b3, b4, b5, b6, b7⟩ := q
  obtain ⟨hP, hCa⟩ := hPC
  dsimp only at hN hL hD hC hK hP hCa
  rw [hN, hL, hD, hC, hK, hP, hCa]
theorem text_same {p q : PPlan} (hp : NetOk p) (hq : NetOk q) {S T : ByteArray} (hS : S = ⟨(textB p).toArray⟩) (hT : T = ⟨(textB q).toArray⟩) : (decide (S = T)) = sameB p q := by
  by_cases h : p = q
  · have h1 := (sameB_iff p q).2 h
    rw [h1, hS, hT, h]
    simp
  · have h1 : sameB p q = false := by
      cases hs : sameB p q with
      | false => rfl
      | true => exact absurd ((sameB_iff p q).1 hs) h
    rw [h1, decide_eq_false_iff_not]
    intro e
    rw [hS, hT] at e
    have e2 : textB p = textB q := congrArg (fun x : ByteArray => x.data.toList) e
    exact h (text_inj hp hq e2)
end Go.Proofs.YtponlhgkgmlihaaDoor
