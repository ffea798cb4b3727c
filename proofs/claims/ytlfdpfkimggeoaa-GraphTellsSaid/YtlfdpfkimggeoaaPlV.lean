/-
  What the law's Net has at hand: its source, its network in the making.
-/
import Derived.Test.YtlfdpfkimggeoaaPmA
namespace Go.Proofs.Ytlfdpfkimggeoaa

/-- What a source of raw numbers tells, one below n. -/
def nx (l : List Int) (n : Nat) : Nat := match l with
  | [] => 0
  | c :: _ => (pickN c n).toNat
theorem nx_lt (l : List Int) (n : Nat) (h : 0 < n) : nx l n < n := by
  cases l with
  | nil => exact h
  | cons c r =>
    obtain ⟨h1, h2⟩ := pickN_in c n (by omega)
    show (pickN c n).toNat < n
    omega

def nmG (i : Nat) : ByteArray := ([⟨#[97]⟩, ⟨#[98]⟩, ⟨#[99]⟩, ⟨#[100]⟩, ⟨#[101]⟩, ⟨#[102]⟩, ⟨#[103]⟩] : List ByteArray).getD i ⟨#[]⟩
def dnG (i : Nat) : ByteArray := ([⟨#[120]⟩, ⟨#[121]⟩] : List ByteArray).getD i ⟨#[]⟩

def nodeG (i : Nat) (l : List Int) : PNode := ⟨nmG i, if 0 < nx l.tail 3 then 10 + (i : Int) else 1 + (nx l 9 : Int)⟩
def nodesG (l : List Int) : Nat → List PNode × List Int
  | 0 => ([], l)
  | k + 1 => ((nodesG l k).1 ++ [nodeG k (nodesG l k).2], (nodesG l k).2.tail.tail)

def hasL (ls : List PLink) (a b : Nat) : Bool := ls.any (linkIs a b)
def endsG (n i : Nat) (l : List Int) : (Nat × Nat) × List Int :=
  if n ≤ i + 1 then ((nx l n, nx l.tail n), l.tail.tail)
  else if nx l 4 = 0 then ((nx l.tail n, nx l.tail.tail n), l.tail.tail.tail)
  else ((i, i + 1), l.tail)
/-- A link between two, if there is none yet. -/
def joinG (a b : Nat) (ls : List PLink) (l : List Int) : List PLink × List Int :=
  if a ≠ b ∧ hasL ls a b = false then (ls ++ [⟨a, b, ((1 + nx l 15 % (1 + nx l.tail 15) : Nat) : Int)⟩], l.tail.tail) else (ls, l)
def linkG (n i : Nat) (S : List PLink × List Int) : List PLink × List Int :=
  joinG (min (endsG n i S.2).1.1 (endsG n i S.2).1.2) (max (endsG n i S.2).1.1 (endsG n i S.2).1.2) S.1 (endsG n i S.2).2
def linksG (n : Nat) (l : List Int) : Nat → List PLink × List Int
  | 0 => ([], l)
  | k + 1 => linkG n k (linksG n l k)

def destG (n : Nat) (S : List PDest × List Int) : List PDest × List Int :=
  if nx S.2.tail 3 = 0 ∧ nx S.2 n + 1 < n then (S.1 ++ [⟨dnG S.1.length, [(nx S.2 n : Int), ((nx S.2 n + 1 + nx S.2.tail.tail (n - nx S.2 n - 1) : Nat) : Int)]⟩], S.2.tail.tail.tail)
  else (S.1 ++ [⟨dnG S.1.length, [(nx S.2 n : Int)]⟩], S.2.tail.tail)
def destsG (n : Nat) (l : List Int) : Nat → List PDest × List Int
  | 0 => ([], l)
  | k + 1 => destG n (destsG n l k)

def checkG (n nd : Nat) (S : List PCheck × List Int) : List PCheck × List Int :=
  if nx S.2 4 = 1 then (S.1 ++ [⟨2, nx S.2.tail n, nx S.2.tail.tail nd, nx S.2.tail.tail.tail 20, 0⟩], S.2.tail.tail.tail.tail)
  else if nx S.2 4 = 0 then (S.1 ++ [⟨1, nx S.2.tail n, nx S.2.tail.tail nd, 0, 0⟩], S.2.tail.tail.tail)
  else (S.1 ++ [⟨1 + (nx S.2 4 : Int), nx S.2.tail n, nx S.2.tail.tail nd, 0, nx S.2.tail.tail.tail n⟩], S.2.tail.tail.tail.tail)
def checksG (n nd : Nat) (l : List Int) : Nat → List PCheck × List Int
  | 0 => ([], l)
  | k + 1 => checkG n nd (checksG n nd l k)

/-- Protocol, cap, and what is left. -/
def protoG (l : List Int) : (Int × Int) × List Int := if nx l 2 = 1 then ((2, ((1 + nx l.tail 6 : Nat) : Int)), l.tail.tail) else ((1, 0), l.tail)
def nG (l : List Int) : Nat := 2 + nx (protoG l).2.tail 6
def nodesOf (l : List Int) : List PNode × List Int := nodesG (protoG l).2.tail.tail (nG l)
def linksOf (l : List Int) : List PLink × List Int := linksG (nG l) (nodesOf l).2.tail (nx (nodesOf l).2 10)
def ndG (l : List Int) : Nat := nx (linksOf l).2 2 + 1
def destsOf (l : List Int) : List PDest × List Int := destsG (nG l) (linksOf l).2.tail (ndG l)
def checksOf (l : List Int) : List PCheck × List Int := checksG (nG l) (ndG l) (destsOf l).2.tail (nx (destsOf l).2 7)
/-- The network of raw numbers. -/
def netL (l : List Int) : PPlan := ⟨(protoG l).1.1, (protoG l).1.2, min (nx (protoG l).2 4 : Int) ((linksOf l).1.length : Int), (nodesOf l).1, (linksOf l).1, (destsOf l).1, (checksOf l).1⟩
def netOf (raw : List Int) : PPlan := netL (raw.take 200)

/-! ### What is so of it -/
theorem ixF_eq {α : Type} (p : α → Bool) : ∀ (l : List α) (i s : Nat) (x : α), l[i]? = some x → p x = true → (∀ j y, j < i → l[j]? = some y → p y = false) → ixF p l s = (s + i : Nat)
  | [], i, s, x, h, _, _ => by simp at h
  | z :: r, 0, s, x, h, hp, _ => by
    simp at h
    subst h
    rw [ixF, if_pos hp]; rfl
  | z :: r, i + 1, s, x, h, hp, hn => by
    have hz := hn 0 z (by omega) rfl
    rw [ixF, if_neg (by rw [hz]; simp), ixF_eq p r i (s + 1) x (by simpa using h) hp (fun j y hj hy => hn (j + 1) y (by omega) (by simpa using hy))]
    congr 1; omega
theorem ixB_eq {α : Type} (p : α → Bool) (l : List α) (i : Nat) (x : α) (hx : l[i]? = some x) (hp : p x = true) (hn : ∀ j y, j < i → l[j]? = some y → p y = false) : ixB p l = i := by
  unfold ixB
  rw [ixF_eq p l i 0 x hx hp hn]; congr 1; omega
theorem ixB_none {α : Type} (p : α → Bool) (l : List α) (hn : ∀ (j : Nat) (y : α), l[j]? = some y → p y = false) : ixB p l = -1 := by
  have : ∀ (l : List α) (s : Nat), (∀ (j : Nat) (y : α), l[j]? = some y → p y = false) → ixF p l s = -1 := by
    intro l
    induction l with
    | nil => intro s _; rfl
    | cons z r ih =>
      intro s h
      rw [ixF, if_neg (by rw [h 0 z rfl]; simp)]
      exact ih (s + 1) fun j y hj => h (j + 1) y (by simpa using hj)
  exact this l 0 hn

theorem nG_in (l : List Int) : 2 ≤ nG l ∧ nG l ≤ 7 := by unfold nG; have := nx_lt (protoG l).2.tail 6 (by omega); omega
theorem nodesG_len (l : List Int) : ∀ k, (nodesG l k).1.length = k
  | 0 => rfl
  | k + 1 => by rw [nodesG, List.length_append, nodesG_len l k]; rfl
theorem nodesG_at (l : List Int) : ∀ (k i : Nat) (x : PNode), (nodesG l k).1[i]? = some x → i < k ∧ x.name = nmG i ∧ 1 ≤ x.num ∧ x.num ≤ 10 + i
  | 0, i, x, h => by simp [nodesG] at h
  | k + 1, i, x, h => by
    rw [nodesG] at h
    rcases Nat.lt_or_ge i k with hi | hi
    · rw [List.getElem?_append_left (by rw [nodesG_len]; exact hi)] at h
      obtain ⟨_, h2⟩ := nodesG_at l k i x h
      exact ⟨by omega, h2⟩
    · rw [List.getElem?_append_right (by rw [nodesG_len]; exact hi), nodesG_len] at h
      have h0 : i - k = 0 := by
        have := (List.getElem?_eq_some_iff.1 h).1
        simp at this; omega
      rw [h0] at h
      simp at h
      subst h
      have e : i = k := by omega
      subst e
      unfold nodeG
      dsimp only
      have := nx_lt (nodesG l i).2 9 (by omega)
      refine ⟨by omega, rfl, ?_, ?_⟩ <;> split <;> omega

theorem linkIs_iff (a b : Int) (o : PLink) : linkIs a b o = true ↔ o.a = a ∧ o.b = b := by unfold linkIs; simp
/-- Links that may be: their ends are nodes, in order; no two are alike. -/
def LinksOk (n : Nat) (ls : List PLink) : Prop :=
  ∀ (i : Nat) (x : PLink), ls[i]? = some x → (∃ a b c : Nat, x.a = a ∧ x.b = b ∧ x.cost = c ∧ a < b ∧ b < n ∧ 1 ≤ c ∧ c ≤ 15) ∧ ∀ (j : Nat) (y : PLink), j < i → ls[j]? = some y → linkIs x.a x.b y = false
theorem joinG_ok (n : Nat) {ls : List PLink} (h : LinksOk n ls) (a b : Nat) (l : List Int) (hab : a ≤ b) (hb : b < n) : LinksOk n (joinG a b ls l).1 ∧ (joinG a b ls l).1.length ≤ ls.length + 1 := by
  unfold joinG
  split
  · rename_i hc
    refine ⟨fun i x hx => ?_, by simp⟩
    dsimp only at hx ⊢
    rcases Nat.lt_or_ge i ls.length with hi | hi
    · rw [List.getElem?_append_left hi] at hx
      obtain ⟨h1, h2⟩ := h i x hx
      exact ⟨h1, fun j y hj hy => h2 j y hj (by rw [List.getElem?_append_left (by omega)] at hy; exact hy)⟩
    · rw [List.getElem?_append_right hi] at hx
      have h0 : i - ls.length = 0 := by
        have := (List.getElem?_eq_some_iff.1 hx).1
        simp at this; omega
      rw [h0] at hx
      simp at hx
      subst hx
      have c1 := nx_lt l 15 (by omega)
      have c2 := nx_lt l.tail 15 (by omega)
      have c3 : nx l 15 % (1 + nx l.tail 15) < 15 := Nat.lt_of_le_of_lt (Nat.mod_le _ _) c1
      refine ⟨⟨a, b, (1 + nx l 15 % (1 + nx l.tail 15) : Nat), rfl, rfl, rfl, by omega, hb, by omega, by omega⟩, fun j y hj hy => ?_⟩
      rw [List.getElem?_append_left (by omega)] at hy
      have hh := hc.2
      unfold hasL at hh
      rw [List.any_eq_false] at hh
      have := hh y (List.mem_of_getElem? hy)
      simpa using this
  · exact ⟨h, by simp⟩
theorem endsG_in (n i : Nat) (l : List Int) (hn : 0 < n) : (endsG n i l).1.1 < n ∧ (endsG n i l).1.2 < n := by
  unfold endsG
  split
  · exact ⟨nx_lt _ _ hn, nx_lt _ _ hn⟩
  · split
    · exact ⟨nx_lt _ _ hn, nx_lt _ _ hn⟩
    · dsimp only; omega
theorem linksG_ok (n : Nat) (l : List Int) (hn : 0 < n) : ∀ k, LinksOk n (linksG n l k).1 ∧ (linksG n l k).1.length ≤ k
  | 0 => ⟨fun i x h => by simp [linksG] at h, by simp [linksG]⟩
  | k + 1 => by
    obtain ⟨h1, h2⟩ := linksG_ok n l hn k
    obtain ⟨e1, e2⟩ := endsG_in n k (linksG n l k).2 hn
    rw [linksG, linkG]
    obtain ⟨g1, g2⟩ := joinG_ok n h1 (min (endsG n k (linksG n l k).2).1.1 (endsG n k (linksG n l k).2).1.2) (max (endsG n k (linksG n l k).2).1.1 (endsG n k (linksG n l k).2).1.2) (endsG n k (linksG n l k).2).2 (by omega) (by omega)
    exact ⟨g1, by omega⟩

/-- Destinations that may be. -/
def DestsOk (n : Nat) (ds : List PDest) : Prop :=
  ∀ (i : Nat) (d : PDest), ds[i]? = some d → d.name = dnG i ∧ ((∃ o : Nat, d.orig = [(o : Int)] ∧ o < n) ∨ (∃ o o2 : Nat, d.orig = [(o : Int), (o2 : Int)] ∧ o < o2 ∧ o2 < n))
theorem destsG_ok (n : Nat) (l : List Int) (hn : 0 < n) : ∀ k, DestsOk n (destsG n l k).1 ∧ (destsG n l k).1.length = k
  | 0 => ⟨fun i x h => by simp [destsG] at h, by simp [destsG]⟩
  | k + 1 => by
    obtain ⟨h1, h2⟩ := destsG_ok n l hn k
    rw [destsG]
    have ho := nx_lt (destsG n l k).2 n hn
    unfold destG
    split
    · rename_i hc
      refine ⟨fun i d hd => ?_, by dsimp only; rw [List.length_append, h2]; rfl⟩
      dsimp only at hd
      rcases Nat.lt_or_ge i (destsG n l k).1.length with hi | hi
      · rw [List.getElem?_append_left hi] at hd
        exact h1 i d hd
      · rw [List.getElem?_append_right hi] at hd
        have h0 : i - (destsG n l k).1.length = 0 := by
          have := (List.getElem?_eq_some_iff.1 hd).1
          simp at this; omega
        rw [h0] at hd
        simp only [List.getElem?_cons_zero, Option.some.injEq] at hd
        subst hd
        have := nx_lt (destsG n l k).2.tail.tail (n - nx (destsG n l k).2 n - 1) (by omega)
        exact ⟨by dsimp only; congr 1; omega, .inr ⟨nx (destsG n l k).2 n, (nx (destsG n l k).2 n + 1 + nx (destsG n l k).2.tail.tail (n - nx (destsG n l k).2 n - 1) : Nat), rfl, by omega, by omega⟩⟩
    · refine ⟨fun i d hd => ?_, by dsimp only; rw [List.length_append, h2]; rfl⟩
      dsimp only at hd
      rcases Nat.lt_or_ge i (destsG n l k).1.length with hi | hi
      · rw [List.getElem?_append_left hi] at hd
        exact h1 i d hd
      · rw [List.getElem?_append_right hi] at hd
        have h0 : i - (destsG n l k).1.length = 0 := by
          have := (List.getElem?_eq_some_iff.1 hd).1
          simp at this; omega
        rw [h0] at hd
        simp at hd
        subst hd
        exact ⟨by dsimp only; congr 1; omega, .inl ⟨_, rfl, ho⟩⟩

/-- Checks that may be. -/
def ChecksOk (n nd : Nat) (cs : List PCheck) : Prop :=
  ∀ c ∈ cs, ∃ i d li o : Nat, c.node = i ∧ c.dest = d ∧ c.limit = li ∧ c.other = o ∧ i < n ∧ d < nd ∧ o < n ∧ li < 20 ∧ ((c.kind = 1 ∧ li = 0 ∧ o = 0) ∨ (c.kind = 2 ∧ o = 0) ∨ (c.kind = 3 ∧ li = 0) ∨ (c.kind = 4 ∧ li = 0))
theorem checksG_ok (n nd : Nat) (l : List Int) (hn : 0 < n) (hd : 0 < nd) : ∀ k, ChecksOk n nd (checksG n nd l k).1 ∧ (checksG n nd l k).1.length = k
  | 0 => ⟨fun c h => by simp [checksG] at h, by simp [checksG]⟩
  | k + 1 => by
    obtain ⟨h1, h2⟩ := checksG_ok n nd l hn hd k
    rw [checksG]
    generalize hS : checksG n nd l k = S at h1 h2
    have k4 := nx_lt S.2 4 (by omega)
    have k5 := nx_lt S.2.tail n hn
    have k6 := nx_lt S.2.tail.tail nd hd
    have k7 := nx_lt S.2.tail.tail.tail 20 (by omega)
    have k8 := nx_lt S.2.tail.tail.tail n hn
    unfold checkG
    split
    · refine ⟨fun c hc => ?_, by simp [h2]⟩
      simp only [List.mem_append, List.mem_singleton] at hc
      rcases hc with hc | rfl
      · exact h1 c hc
      · exact ⟨_, _, _, 0, rfl, rfl, rfl, rfl, k5, k6, hn, k7, .inr (.inl ⟨rfl, rfl⟩)⟩
    · split
      · refine ⟨fun c hc => ?_, by simp [h2]⟩
        simp only [List.mem_append, List.mem_singleton] at hc
        rcases hc with hc | rfl
        · exact h1 c hc
        · exact ⟨_, _, 0, 0, rfl, rfl, rfl, rfl, k5, k6, hn, by omega, .inl ⟨rfl, rfl, rfl⟩⟩
      · refine ⟨fun c hc => ?_, by simp [h2]⟩
        simp only [List.mem_append, List.mem_singleton] at hc
        rcases hc with hc | rfl
        · exact h1 c hc
        · refine ⟨_, _, 0, _, rfl, rfl, rfl, rfl, k5, k6, k8, by omega, ?_⟩
          dsimp only
          omega

end Go.Proofs.Ytlfdpfkimggeoaa

namespace Go.Proofs.Ytlfdpfkimggeoaa

theorem nm_name : ∀ i, i < 7 → nameB (nmG i).data.toList = true ∧ (nmG i).size ≤ 4 ∧ ∀ j, j < i → nmG j ≠ nmG i := by decide +kernel
theorem dn_name : ∀ i, i < 2 → nameB (dnG i).data.toList = true ∧ (dnG i).size ≤ 4 ∧ (∀ j, j < i → dnG j ≠ dnG i) ∧ ∀ j, j < 7 → nmG j ≠ dnG i := by decide +kernel

theorem nodesOf_len (l : List Int) : (nodesOf l).1.length = nG l := nodesG_len _ _
theorem nodesOf_at (l : List Int) {i : Nat} {x : PNode} (h : (nodesOf l).1[i]? = some x) : i < nG l ∧ x.name = nmG i ∧ 1 ≤ x.num ∧ x.num ≤ 10 + i := nodesG_at _ _ i x h
theorem node_ix (l : List Int) (i : Nat) (hi : i < nG l) : ixB (nameIs (nmG i)) (nodesOf l).1 = i := by
  have h7 := nG_in l
  obtain ⟨x, hx⟩ : ∃ x, (nodesOf l).1[i]? = some x := ⟨_, List.getElem?_eq_getElem (by rw [nodesOf_len]; exact hi)⟩
  obtain ⟨_, h2, _⟩ := nodesOf_at l hx
  refine ixB_eq _ _ i x hx (by unfold nameIs; rw [h2]; simp) fun j y hj hy => ?_
  obtain ⟨_, g2, _⟩ := nodesOf_at l hy
  unfold nameIs
  rw [g2, decide_eq_false ((nm_name i (by omega)).2.2 j hj)]
theorem node_no (l : List Int) (j : Nat) (hj : j < 2) : ixB (nameIs (dnG j)) (nodesOf l).1 = -1 := by
  have h7 := nG_in l
  refine ixB_none _ _ fun k y hy => ?_
  obtain ⟨g1, g2, _⟩ := nodesOf_at l hy
  unfold nameIs
  rw [g2, decide_eq_false ((dn_name j hj).2.2.2 k (by omega))]
theorem nodesOf_ok (l : List Int) : nodesB (nodesOf l).1 = true := by
  have h7 := nG_in l
  unfold nodesB
  rw [nodesOf_len, Bool.and_eq_true]
  refine ⟨by unfold withinB; simp; omega, (allF_iff _ _ _).2 fun k x hx => ?_⟩
  obtain ⟨h1, h2, h3, h4⟩ := nodesOf_at l hx
  unfold nodeOk
  rw [Nat.zero_add, h2, node_ix l k h1, (nm_name k (by omega)).1]
  unfold withinB
  simp
  omega

theorem linksOf_ok (l : List Int) : LinksOk (nG l) (linksOf l).1 ∧ (linksOf l).1.length ≤ 9 := by
  obtain ⟨h1, h2⟩ := linksG_ok (nG l) (nodesOf l).2.tail (by have := nG_in l; omega) (nx (nodesOf l).2 10)
  have := nx_lt (nodesOf l).2 10 (by omega)
  exact ⟨h1, by show (linksG (nG l) (nodesOf l).2.tail (nx (nodesOf l).2 10)).1.length ≤ 9; omega⟩
theorem linksB_ok {n : Nat} {ls : List PLink} (h : LinksOk n ls) (hl : ls.length ≤ 16) : linksB n ls = true := by
  unfold linksB
  rw [decide_eq_true hl, Bool.true_and]
  refine (allF_iff _ _ _).2 fun k x hx => ?_
  obtain ⟨⟨a, b, c, ha, hb, hc, hab, hbn, h1, h2⟩, hd⟩ := h k x hx
  have hix := ixB_eq (linkIs x.a x.b) ls k x hx ((linkIs_iff _ _ _).2 ⟨rfl, rfl⟩) hd
  unfold linkOk
  rw [Nat.zero_add, hix, ha, hb, hc]
  unfold placeB withinB
  simp
  omega

theorem destsOf_ok (l : List Int) : DestsOk (nG l) (destsOf l).1 ∧ (destsOf l).1.length = ndG l := destsG_ok _ _ (by have := nG_in l; omega) _
theorem ndG_in (l : List Int) : 1 ≤ ndG l ∧ ndG l ≤ 2 := by unfold ndG; have := nx_lt (linksOf l).2 2 (by omega); omega
theorem dest_ix (l : List Int) (i : Nat) (hi : i < ndG l) : ixB (destIs (dnG i)) (destsOf l).1 = i := by
  obtain ⟨h1, h2⟩ := destsOf_ok l
  have hd := ndG_in l
  obtain ⟨x, hx⟩ : ∃ x, (destsOf l).1[i]? = some x := ⟨_, List.getElem?_eq_getElem (by rw [h2]; exact hi)⟩
  obtain ⟨e, _⟩ := h1 i x hx
  refine ixB_eq _ _ i x hx (by unfold destIs; rw [e]; simp) fun j y hj hy => ?_
  obtain ⟨e2, _⟩ := h1 j y hy
  unfold destIs
  rw [e2, decide_eq_false ((dn_name i (by omega)).2.2.1 j hj)]
theorem dest_no (l : List Int) (j : Nat) (hj : j < nG l) : ixB (destIs (nmG j)) (destsOf l).1 = -1 := by
  obtain ⟨h1, h2⟩ := destsOf_ok l
  have hd := ndG_in l
  have hn := nG_in l
  refine ixB_none _ _ fun k y hy => ?_
  have hk := (List.getElem?_eq_some_iff.1 hy).1
  obtain ⟨e, _⟩ := h1 k y hy
  unfold destIs
  rw [e, decide_eq_false (fun e' => (dn_name k (by omega)).2.2.2 j (by omega) e'.symm)]
theorem destsB_ok (l : List Int) : destsB (nodesOf l).1 (destsOf l).1 = true := by
  obtain ⟨h1, h2⟩ := destsOf_ok l
  have hd := ndG_in l
  unfold destsB
  rw [decide_eq_true (by omega), Bool.true_and]
  refine (allF_iff _ _ _).2 fun k x hx => ?_
  have hk := (List.getElem?_eq_some_iff.1 hx).1
  obtain ⟨e, ho⟩ := h1 k x hx
  have n1 := node_no l k (by omega)
  have n2 := dest_ix l k (by omega)
  unfold destOk
  rw [Nat.zero_add, e, n1, n2, (dn_name k (by omega)).1, nodesOf_len]
  rcases ho with ⟨o, ho, hlt⟩ | ⟨o, o2, ho, hlt, hlt2⟩
  · rw [ho]
    unfold origB
    rw [origF, origF]
    unfold withinB
    simp
    omega
  · rw [ho]
    unfold origB
    rw [origF, origF, origF]
    unfold withinB
    simp
    omega

theorem checksOf_ok (l : List Int) : ChecksOk (nG l) (ndG l) (checksOf l).1 ∧ (checksOf l).1.length ≤ 6 := by
  have hd := ndG_in l
  obtain ⟨h1, h2⟩ := checksG_ok (nG l) (ndG l) (destsOf l).2.tail (by have := nG_in l; omega) (by omega) (nx (destsOf l).2 7)
  have := nx_lt (destsOf l).2 7 (by omega)
  exact ⟨h1, by show (checksG (nG l) (ndG l) (destsOf l).2.tail (nx (destsOf l).2 7)).1.length ≤ 6; omega⟩
theorem checkB_ok {ln ld : Nat} {c : PCheck} (h : ∃ i d li o : Nat, c.node = i ∧ c.dest = d ∧ c.limit = li ∧ c.other = o ∧ i < ln ∧ d < ld ∧ o < ln ∧ li < 20 ∧ ((c.kind = 1 ∧ li = 0 ∧ o = 0) ∨ (c.kind = 2 ∧ o = 0) ∨ (c.kind = 3 ∧ li = 0) ∨ (c.kind = 4 ∧ li = 0))) : checkB ln ld c = true := by
  obtain ⟨i, d, li, o, hi, hd, hl, ho, h1, h2, h3, h4, h5⟩ := h
  unfold checkB placeB withinB limB othB
  rw [hi, hd, hl, ho]
  rcases h5 with ⟨hk, rfl, rfl⟩ | ⟨hk, rfl⟩ | ⟨hk, rfl⟩ | ⟨hk, rfl⟩ <;> (rw [hk]; simp; omega)
theorem checksB_ok {ln ld : Nat} {cs : List PCheck} (h : ChecksOk ln ld cs) (hl : cs.length ≤ 16) : checksB ln ld cs = true := by
  unfold checksB
  rw [decide_eq_true hl, Bool.true_and]
  exact (allF_iff _ _ _).2 fun k x hx => checkB_ok (h x (List.mem_of_getElem? hx))

theorem protoG_ok (l : List Int) : protoB (protoG l).1.1 (protoG l).1.2 = true ∧ ∃ i : Nat, (protoG l).1.2 = i ∧ i < 100 := by
  have := nx_lt l.tail 6 (by omega)
  unfold protoG
  split
  · refine ⟨?_, _, rfl, by omega⟩
    unfold protoB withinB
    simp
    omega
  · exact ⟨rfl, 0, rfl, by omega⟩

/-- It may be. -/
theorem net_right (l : List Int) : rightB (netL l) = true := by
  obtain ⟨d1, d2⟩ := destsOf_ok l
  obtain ⟨l1, l2⟩ := linksOf_ok l
  obtain ⟨c1, c2⟩ := checksOf_ok l
  have hk := nx_lt (protoG l).2 4 (by omega)
  unfold rightB netL
  dsimp only
  rw [(protoG_ok l).1, nodesOf_ok, nodesOf_len, d2, linksB_ok l1 (by omega), destsB_ok, checksB_ok c1 (by omega)]
  unfold withinB
  simp
  omega

theorem net_small (l : List Int) : PSmall (netL l) := by
  obtain ⟨d1, d2⟩ := destsOf_ok l
  obtain ⟨l1, l2⟩ := linksOf_ok l
  obtain ⟨c1, c2⟩ := checksOf_ok l
  have hn := nG_in l
  have hd := ndG_in l
  have hl := nodesOf_len l
  refine ⟨fun n hn' => ?_, fun d hd' => ?_, ?_, ?_, ?_, ?_⟩
  · obtain ⟨k, hk⟩ := List.getElem?_of_mem hn'
    obtain ⟨e1, e2, _⟩ := nodesOf_at l hk
    rw [e2]
    exact Nat.le_trans (nm_name k (by omega)).2.1 (by omega)
  · obtain ⟨k, hk⟩ := List.getElem?_of_mem hd'
    have hk2 : k < (destsOf l).1.length := (List.getElem?_eq_some_iff.1 hk).1
    obtain ⟨e1, e2⟩ := d1 k d hk
    rw [e1]
    refine ⟨Nat.le_trans (dn_name k (by omega)).2.1 (by omega), ?_⟩
    rcases e2 with ⟨o, e, _⟩ | ⟨o, o2, e, _⟩ <;> (rw [e]; simp)
  · show (nodesOf l).1.length ≤ 4096; omega
  · show (linksOf l).1.length ≤ 4096; omega
  · show (destsOf l).1.length ≤ 4096; omega
  · show (checksOf l).1.length ≤ 4096; omega

theorem net_tiny (l : List Int) : PTiny (netL l) := by
  obtain ⟨d1, d2⟩ := destsOf_ok l
  obtain ⟨l1, l2⟩ := linksOf_ok l
  obtain ⟨c1, c2⟩ := checksOf_ok l
  have hn := nG_in l
  have hl := nodesOf_len l
  have hk := nx_lt (protoG l).2 4 (by omega)
  have hln : (netL l).nodes.length = nG l := hl
  have hld : (netL l).dests.length = ndG l := d2
  refine ⟨(protoG_ok l).2, ⟨min (nx (protoG l).2 4) (linksOf l).1.length, ?_, by omega⟩, fun n hn' => ?_, fun x hx => ?_, fun d hd a ha => ?_, fun c hc => ?_⟩
  · show min (nx (protoG l).2 4 : Int) ((linksOf l).1.length : Int) = _
    omega
  · obtain ⟨k, hk⟩ := List.getElem?_of_mem hn'
    obtain ⟨e1, _, e3, e4⟩ := nodesOf_at l hk
    exact ⟨n.num.toNat, by omega, by omega⟩
  · rw [hln]
    obtain ⟨k, hk⟩ := List.getElem?_of_mem hx
    obtain ⟨⟨a, b, c, ha, hb, hc, h1, h2, h3, h4⟩, _⟩ := l1 k x hk
    exact ⟨a, b, c, ha, hb, hc, by omega, h2, by omega⟩
  · rw [hln]
    obtain ⟨k, hk⟩ := List.getElem?_of_mem hd
    obtain ⟨_, e2⟩ := d1 k d hk
    rcases e2 with ⟨o, e, h1⟩ | ⟨o, o2, e, h1, h2⟩
    · rw [e] at ha
      simp at ha
      exact ⟨o, ha, h1⟩
    · rw [e] at ha
      simp at ha
      rcases ha with ha | ha
      · exact ⟨o, ha, by omega⟩
      · exact ⟨o2, ha, h2⟩
  · rw [hln, hld]
    obtain ⟨i, d, li, o, hi, hd, hl', ho, h1, h2, h3, h4, h5⟩ := c1 c hc
    exact ⟨by omega, i, d, li, o, hi, hd, hl', ho, h1, h2, h3, by omega⟩

end Go.Proofs.Ytlfdpfkimggeoaa

namespace Go.Proofs.Ytlfdpfkimggeoaa
open Go.RowKit

theorem pick3_any (c n : Int) (hc : InI c) (h0 : 0 < n) (hn : n ≤ 9223372036854775807) (w : World) :
    Calls Try.prog 51 #[.int .i64 c, .int .i64 n] w fun e w' => e = .returned (.int .i64 (pickN c n)) ∧ w = w' := by
  obtain ⟨h1, h2⟩ := hc
  have hz : ¬ n = 0 := by omega
  by_cases h : c < 0
  · have hp : pickN c n = (-(c + 1)) % n := by unfold pickN; rw [if_pos h]
    have H := Lib.hid hp
    have b1 : 0 ≤ -(c + 1) := by omega
    have b2 : -(c + 1) ≤ 9223372036854775807 := by omega
    clear hp
    go_enter Try.func51, Try.ntmps51
    go_wp2
    go_ret
    exact ⟨ret_int (by rw [H.out, ← Int.neg_tmod, Int.tmod_eq_emod_of_nonneg b1]), rfl⟩
  · have hp : pickN c n = c % n := by unfold pickN; rw [if_neg h]
    have H := Lib.hid hp
    have b1 : 0 ≤ c := by omega
    clear hp
    go_enter Try.func51, Try.ntmps51
    go_wp2
    go_ret
    exact ⟨ret_int H.out.symm, rfl⟩
theorem pick3_is (c n v : Int) (hc : InI c) (h0 : 0 < n) (hn : n ≤ 9223372036854775807) (H : Hid (pickN c n = v)) (w : World) :
    Calls Try.prog 51 #[.int .i64 c, .int .i64 n] w fun e w' => e = .returned (.int .i64 v) ∧ w = w' :=
  (pick3_any c n hc h0 hn w).mono fun _ _ ⟨he, hw⟩ => ⟨by rw [he, H.out], hw⟩

/-- The source at block sb: these raw numbers are left, which lie below block B. -/
def SrcAt (B sb : Nat) (l : List Int) (w : World) : Prop :=
  ∃ A c, Blk w sb 60 #[.slice A l.length c] ∧ l.length ≤ c ∧ CellsAt w B A (l.map (Value.int .i64))
/-- Of all that lay in memory block sb alone has turned. -/
structure Turned (sb : Nat) (w w' : World) : Prop where
  grown : w.grownBy w' (some sb)
theorem Turned.refl (sb : Nat) (w : World) : Turned sb w w := ⟨World.grownBy.refl w _⟩
theorem Turned.set (sb : Nat) (w : World) (v : Value) : Turned sb w (w.setCell ⟨sb, 0, none⟩ v) :=
  ⟨⟨rfl, rfl, rfl, by simp [World.setCell], fun i _ hne => Below.heap_setCell w ⟨sb, 0, none⟩ v i (fun e => hne (by rw [e]))⟩⟩
theorem Turned.trans {sb : Nat} {a b c : World} (h : Turned sb a b) (k : Turned sb b c) : Turned sb a c :=
  ⟨⟨k.grown.os.trans h.grown.os, k.grown.tape.trans h.grown.tape, k.grown.output.trans h.grown.output, Nat.le_trans h.grown.size k.grown.size, fun i hi hne => (k.grown.block i (Nat.lt_of_lt_of_le hi h.grown.size) hne).trans (h.grown.block i hi hne)⟩⟩
theorem Turned.up {sb : Nat} {a b c : World} (h : Turned sb a b) (k : Below b.heap.size b c) : Turned sb a c :=
  h.trans ⟨⟨k.os, k.tape, k.output, k.size, fun i hi _ => k.block i hi⟩⟩
theorem Turned.setNew {sb : Nat} {a b : World} (h : Turned sb a b) {p : Addr} (hp : a.heap.size ≤ p.block) (u : Value) : Turned sb a (b.setCell p u) :=
  ⟨⟨h.grown.os, h.grown.tape, h.grown.output, by simpa [World.setCell] using h.grown.size, fun i hi hne => (Below.heap_setCell b p u i (by omega)).trans (h.grown.block i hi hne)⟩⟩
theorem Turned.grownNew {sb : Nat} {a b c : World} (h : Turned sb a b) {row : Option Nat} (k : b.grownBy c row) (hr : ∀ g, row = some g → a.heap.size ≤ g) : Turned sb a c :=
  ⟨⟨k.os.trans h.grown.os, k.tape.trans h.grown.tape, k.output.trans h.grown.output, Nat.le_trans h.grown.size k.size, fun i hi hne => (k.block i (Nat.lt_of_lt_of_le hi h.grown.size) (fun e => by have := hr i e.symm; omega)).trans (h.grown.block i hi hne)⟩⟩
theorem Turned.blk {sb g : Nat} {w w' : World} {t : TypeId} {cs : Array Value} (h : Turned sb w w') (hk : Blk w g t cs) (hne : g ≠ sb) : Blk w' g t cs := hk.grown h.grown (fun e => hne (by injection e))
theorem Turned.below {sb B : Nat} {a w w' : World} (h : Turned sb w w') (hb : Below B a w) (hB : B ≤ sb) (hs : B ≤ a.heap.size) : Below B a w' := hb.grown h.grown (Nat.le_trans hs hb.size) (fun g hg => by injection hg with hg; omega)
theorem Turned.own {sb base : Nat} {w w' : World} {e : TypeId} {size n : Nat} {v : Value} {xs : List Value} (h : Turned sb w w') (ho : w.ownsRow base e size v n xs) (hne : v.ownBlock ≠ some sb) : w'.ownsRow base e size v n xs := by
  refine ho.kept (row := some sb) ⟨h.grown.os, h.grown.tape, h.grown.output, h.grown.size, h.grown.block⟩ ?_
  cases hv : v.ownBlock with
  | none => exact .inl rfl
  | some g => exact .inr (fun e => hne (by rw [hv]; exact e))

theorem next_any (B sb : Nat) (l : List Int) (n : Nat) (h0 : 0 < n) (hn : n ≤ 4096) (hl : ∀ v ∈ l, InI v) (hm : l.length ≤ 4096) (hB : B ≤ sb) (w : World) (hS : SrcAt B sb l w) :
    Calls Try.prog 32 #[.pointer (some ⟨sb, 0, none⟩), .int .i64 (n : Int)] w fun e w' => e = .returned (.int .i64 (nx l n : Int)) ∧ SrcAt B sb l.tail w' ∧ Turned sb w w' := by
  obtain ⟨A, c, hb, hc, hA⟩ := hS
  have c0 := hb.cell 0
  have f0 := hb.frozen 0
  cases l with
  | nil =>
    have HS : Hid (SrcAt B sb [] w) := Lib.hid ⟨A, c, hb, hc, hA⟩
    clear hb hA
    go_enter Try.func32, Try.ntmps32
    go_wp2
    go_ret
    exact ⟨rfl, HS.out, Turned.refl _ _⟩
  | cons x r =>
    obtain ⟨ad, hAd, had, hcell⟩ := hA (by simp)
    subst hAd
    have hx0 : w.cell? ad = some (.int .i64 x) := by have := hcell 0 _ rfl; simpa [Addr.add] using this
    have hx := hl x (by simp)
    obtain ⟨hp1, hp2⟩ := pickN_in x n (by omega)
    have hnx : (pickN x n) = ((nx (x :: r) n : Nat) : Int) := by
      show pickN x n = ((pickN x n).toNat : Int)
      omega
    have HP := Lib.hid hnx
    obtain ⟨m, hmr⟩ : ∃ m, r.length = m := ⟨_, rfl⟩
    rw [List.length_cons, hmr] at c0 hb hc hm
    have HMR := Lib.hid hmr
    by_cases hc1 : c = 1
    · subst hc1
      have hm0 : m = 0 := by omega
      subst hm0
      have hr : r = [] := List.eq_nil_of_length_eq_zero hmr
      have HS : Hid (SrcAt B sb r (w.setCell ⟨sb, 0, none⟩ (.slice (some ad) 0 0))) := Lib.hid ⟨some ad, 0, by rw [hmr]; exact hb.set_ 0 _, by omega, by rw [hr]; exact CellsAt.nil _ _ _⟩
      clear hb hcell hl hnx hmr hr
      go_enter Try.func32, Try.ntmps32
      go_wp2_with (go_at_call 51; refine (pick3_is _ _ _ hx (by omega) (by omega) HP _).mono ?_; rintro e w2 ⟨rfl, rfl⟩)
      go_ret
      exact ⟨rfl, HS.out, Turned.set _ _ _⟩
    · have hc2 : (1 : Int) < (c : Int) := by omega
      have HS : Hid (SrcAt B sb r (w.setCell ⟨sb, 0, none⟩ (.slice (some (ad.add 1)) m (c - 1)))) := Lib.hid ⟨some (ad.add 1), c - 1, by rw [hmr]; exact hb.set_ 0 _, by omega, fun _ => ⟨ad.add 1, rfl, by rw [block_of_add]; exact had, fun j u hu => by
        rw [add_of_add, World.cell?_setCell_other _ _ _ _ (fun e => by
          have := congrArg Addr.block e
          rw [block_of_add] at this
          dsimp only at this
          omega)]
        exact hcell _ u (by rw [List.map_cons, Nat.add_comm, List.getElem?_cons_succ]; exact hu)⟩⟩
      clear hb hcell hl hnx hmr
      go_enter Try.func32, Try.ntmps32
      go_wp2_with (go_at_call 51; refine (pick3_is _ _ _ hx (by omega) (by omega) HP _).mono ?_; rintro e w2 ⟨rfl, rfl⟩)
      go_ret
      exact ⟨rfl, HS.out, Turned.set _ _ _⟩

/-- The same, with what it tells named. -/
theorem next_src {B sb : Nat} {l : List Int} {w : World} (n : Int) (m v : Nat) (l' : List Int) (HV : Hid (nx l m = v)) (HT : Hid (l.tail = l')) (hS : SrcAt B sb l w) (hl : ∀ v ∈ l, InI v) (hlen : l.length ≤ 4096) (hB : B ≤ sb) (hn : n = (m : Int)) (h0 : 0 < m) (hm : m ≤ 4096) :
    Calls Try.prog 32 #[.pointer (some ⟨sb, 0, none⟩), .int .i64 n] w fun e w' => e = .returned (.int .i64 (v : Int)) ∧ SrcAt B sb l' w' ∧ Turned sb w w' := by
  subst hn
  refine (next_any B sb l m h0 hm hl hlen hB w hS).mono fun e w' ⟨he, hs, ht⟩ => ?_
  rw [HV.out] at he
  rw [HT.out] at hs
  exact ⟨he, hs, ht⟩
theorem SrcAt.up {B sb : Nat} {l : List Int} {w w' : World} (h : SrcAt B sb l w) (hB : B ≤ w.heap.size) (hb : Below w.heap.size w w') : SrcAt B sb l w' := by
  obtain ⟨A, c, h1, h2, h3⟩ := h
  exact ⟨A, c, h1.up hb, h2, h3.below (hb.mono hB)⟩
theorem SrcAt.setFar {B sb : Nat} {l : List Int} {w : World} (h : SrcAt B sb l w) {p : Addr} (hp : sb ≠ p.block) (hB : B ≤ p.block) (u : Value) : SrcAt B sb l (w.setCell p u) := by
  obtain ⟨A, c, h1, h2, h3⟩ := h
  exact ⟨A, c, h1.far hp u, h2, h3.below ((Below.refl B w).setCell hB u)⟩
theorem SrcAt.far {B sb : Nat} {l : List Int} {w w' : World} (h : SrcAt B sb l w) {row : Option Nat} (hg : w.grownBy w' row) (hB : B ≤ w.heap.size) (hr : ∀ g, row = some g → B ≤ g ∧ g ≠ sb) : SrcAt B sb l w' := by
  obtain ⟨A, c, h1, h2, h3⟩ := h
  exact ⟨A, c, h1.grown hg (fun e => (hr sb e.symm).2 rfl), h2, h3.below ((Below.refl B w).grown hg hB (fun g e => (hr g e).1))⟩

end Go.Proofs.Ytlfdpfkimggeoaa
namespace Go.Proofs.Ytlfdpfkimggeoaa
open Go.RowKit Go.WideShapes Go.ChangeShapes Go.Deep

/-! ### Rows of the call's own -/
theorem own_form {w : World} {base : Nat} {e : TypeId} {size : Nat} {v : Value} {n : Nat} {xs : List Value} (h : w.ownsRow base e size v n xs) : ∃ A c, v = .slice A n c ∧ n ≤ c := by
  rcases h.2 with ⟨hv, h0⟩ | ⟨g, cap, cur, hv, _, _, hc, _⟩
  · exact ⟨none, 0, by rw [hv, h0], by omega⟩
  · exact ⟨_, cap, hv, hc⟩
theorem own_far {w w' : World} {base base' : Nat} {e e' : TypeId} {size size' : Nat} {v v' : Value} {n n' : Nat} {xs xs' : List Value} (h : w.ownsRow base e size v n xs) (k : w.ownsRow base' e' size' v' n' xs') (hne : e ≠ e') (hg : w.grownBy w' v'.ownBlock) : w'.ownsRow base e size v n xs := by
  refine h.kept (row := v'.ownBlock) ⟨hg.os, hg.tape, hg.output, hg.size, hg.block⟩ ?_
  cases hv : v.ownBlock with
  | none => exact .inl rfl
  | some g =>
    refine .inr fun e1 => ?_
    rcases k.2 with ⟨hv', _⟩ | ⟨g', cap, cur, hv', _, hb', _⟩
    · rw [hv'] at e1; simp [Value.ownBlock] at e1
    · rw [hv'] at e1
      have hgg : g = g' := by simpa [Value.ownBlock] using e1
      subst hgg
      exact own_blk_ne h hb' hne hv
theorem own_alloc {w : World} {base : Nat} {e : TypeId} {size : Nat} {v : Value} {n : Nat} {xs : List Value} (h : w.ownsRow base e size v n xs) (o : Obj) : (w.alloc o).ownsRow base e size v n xs := h.alloc _
theorem own_set {w : World} {base : Nat} {e : TypeId} {size : Nat} {v : Value} {n : Nat} {xs : List Value} (h : w.ownsRow base e size v n xs) {g : Nat} {t : TypeId} {cs : Array Value} (hb : Blk w g t cs) (hne : e ≠ t) (i : Nat) (u : Value) : (w.setCell ⟨g, i, none⟩ u).ownsRow base e size v n xs := by
  refine h.kept (row := some g) ⟨rfl, rfl, rfl, by simp [World.setCell], fun k _ hk => Below.heap_setCell w ⟨g, i, none⟩ u k (fun e1 => hk (by rw [e1]))⟩ ?_
  cases hv : v.ownBlock with
  | none => exact .inl rfl
  | some g' => exact .inr (fun e1 => own_blk_ne h hb hne (by rw [hv]; exact e1))

/-- Destinations, rows of the call's own. -/
def DestsOwn (B : Nat) (v : Value) (ds : List PDest) (w : World) : Prop :=
  ∃ hs : List (Option Addr × Nat), hs.length = ds.length ∧ w.ownsRow B 65 2 v ds.length ((ds.zip hs).flatMap destC) ∧ ∀ (i : Nat) (d : PDest) (h : Option Addr × Nat), ds[i]? = some d → hs[i]? = some h → w.ownsRow B 3 1 (.slice h.1 d.orig.length h.2) d.orig.length (d.orig.map (Value.int .i64))
theorem DestsOwn.map {B : Nat} {v : Value} {ds : List PDest} {w w' : World} (h : DestsOwn B v ds w) (f : ∀ {e : TypeId} {size n : Nat} {u : Value} {xs : List Value}, (e = 65 ∨ e = 3) → w.ownsRow B e size u n xs → w'.ownsRow B e size u n xs) : DestsOwn B v ds w' := by
  obtain ⟨hs, h1, h2, h3⟩ := h
  exact ⟨hs, h1, f (.inl rfl) h2, fun i d q e1 e2 => f (.inr rfl) (h3 i d q e1 e2)⟩

/-- The network in the making. -/
structure NetSt (w0 : World) (sb pb : Nat) (l : List Int) (pr ca kk : Int) (vn vl vd vc : Value) (ns : List PNode) (ls : List PLink) (ds : List PDest) (cs : List PCheck) (w : World) : Prop where
  below : Below w0.heap.size w0 w
  src : SrcAt w0.heap.size sb l w
  blk : Blk w pb 29 #[.int .i64 pr, .int .i64 ca, .int .i64 kk, vn, vl, vd, vc]
  nodes : w.ownsRow w0.heap.size 56 2 vn ns.length (ns.flatMap nodeC)
  links : w.ownsRow w0.heap.size 53 3 vl ls.length (ls.flatMap linkC)
  dests : DestsOwn w0.heap.size vd ds w
  checks : w.ownsRow w0.heap.size 67 5 vc cs.length (cs.flatMap checkC)
  sb : w0.heap.size ≤ sb
  pb' : w0.heap.size < pb
  res : Blk w w0.heap.size 29 #[.int .i64 0, .int .i64 0, .int .i64 0, .slice none 0 0, .slice none 0 0, .slice none 0 0, .slice none 0 0]
theorem NetSt.pb {w0 : World} {sb pb : Nat} {l : List Int} {pr ca kk : Int} {vn vl vd vc : Value} {ns : List PNode} {ls : List PLink} {ds : List PDest} {cs : List PCheck} {w : World} (h : NetSt w0 sb pb l pr ca kk vn vl vd vc ns ls ds cs w) : w0.heap.size ≤ pb := Nat.le_of_lt h.pb'

section
variable {w0 : World} {sb pb : Nat} {l : List Int} {pr ca kk : Int} {vn vl vd vc : Value} {ns : List PNode} {ls : List PLink} {ds : List PDest} {cs : List PCheck} {w w' : World}
theorem SrcAt.blk {B : Nat} (h : SrcAt B sb l w) : ∃ v, Blk w sb 60 #[v] := by
  obtain ⟨A, c, hb, _⟩ := h
  exact ⟨_, hb⟩
theorem SrcAt.keep {B : Nat} (h : SrcAt B sb l w) (hb : Below B w w') (hk : ∀ v, Blk w sb 60 #[v] → Blk w' sb 60 #[v]) : SrcAt B sb l w' := by
  obtain ⟨A, c, h1, h2, h3⟩ := h
  exact ⟨A, c, hk _ h1, h2, h3.below hb⟩
theorem NetSt.lt (h : NetSt w0 sb pb l pr ca kk vn vl vd vc ns ls ds cs w) : w0.heap.size ≤ w.heap.size := h.below.size
theorem NetSt.ne (h : NetSt w0 sb pb l pr ca kk vn vl vd vc ns ls ds cs w) : pb ≠ sb := by
  obtain ⟨v, hv⟩ := h.src.blk
  exact h.blk.ne_ hv (by decide)
/-- A number less. -/
theorem NetSt.turned (h : NetSt w0 sb pb l pr ca kk vn vl vd vc ns ls ds cs w) {l' : List Int} (hs : SrcAt w0.heap.size sb l' w') (ht : Turned sb w w') : NetSt w0 sb pb l' pr ca kk vn vl vd vc ns ls ds cs w' := by
  obtain ⟨v, hv⟩ := h.src.blk
  have hk : ∀ {e : TypeId} {size n : Nat} {u : Value} {xs : List Value}, e ≠ 60 → w.ownsRow w0.heap.size e size u n xs → w'.ownsRow w0.heap.size e size u n xs := fun hne ho => ht.own ho (own_blk_ne ho hv hne)
  exact ⟨ht.below h.below h.sb (Nat.le_refl _), hs, ht.blk h.blk h.ne, hk (by decide) h.nodes, hk (by decide) h.links, h.dests.map fun he ho => hk (by rcases he with rfl | rfl <;> decide) ho, hk (by decide) h.checks, h.sb, h.pb', ht.blk h.res (h.res.ne_ hv (by decide))⟩
/-- New blocks. -/
theorem NetSt.up (h : NetSt w0 sb pb l pr ca kk vn vl vd vc ns ls ds cs w) (hb : Below w.heap.size w w') : NetSt w0 sb pb l pr ca kk vn vl vd vc ns ls ds cs w' :=
  ⟨h.below.trans (hb.mono h.lt), h.src.keep (hb.mono h.lt) (fun _ hk => hk.up hb), h.blk.up hb, own_below h.nodes hb, own_below h.links hb, h.dests.map fun _ ho => own_below ho hb, own_below h.checks hb, h.sb, h.pb', h.res.up hb⟩
/-- A row of another type has turned, or come. -/
theorem NetSt.far (h : NetSt w0 sb pb l pr ca kk vn vl vd vc ns ls ds cs w) {e : TypeId} {size n : Nat} {u : Value} {xs : List Value} (ho : w.ownsRow w0.heap.size e size u n xs) (hg : w.grownBy w' u.ownBlock)
    (hN : e ≠ 56) (hL : e ≠ 53) (hD : e ≠ 65) (hC : e ≠ 67) (hI : e ≠ 3) (hP : e ≠ 29) (hS : e ≠ 60) : NetSt w0 sb pb l pr ca kk vn vl vd vc ns ls ds cs w' := by
  have hb : Below w0.heap.size w w' := (Below.refl _ _).grown hg h.lt (fun g hg => (ho.lt g hg).1)
  exact ⟨h.below.trans hb, h.src.keep hb (fun _ hk => hk.grown hg (fun e1 => own_blk_ne ho hk hS e1.symm)), h.blk.grown hg (fun e1 => own_blk_ne ho h.blk hP e1.symm), own_far h.nodes ho (Ne.symm hN) hg, own_far h.links ho (Ne.symm hL) hg,
    h.dests.map fun he hx => own_far hx ho (by rcases he with rfl | rfl; exact Ne.symm hD; exact Ne.symm hI) hg, own_far h.checks ho (Ne.symm hC) hg, h.sb, h.pb', h.res.grown hg (fun e1 => own_blk_ne ho h.res hP e1.symm)⟩
/-- One of the network's own cells is written. -/
theorem NetSt.put (h : NetSt w0 sb pb l pr ca kk vn vl vd vc ns ls ds cs w) (i : Nat) (u : Value) (pr' ca' kk' : Int) (hx : (#[.int .i64 pr, .int .i64 ca, .int .i64 kk, vn, vl, vd, vc] : Array Value).setIfInBounds i u = #[.int .i64 pr', .int .i64 ca', .int .i64 kk', vn, vl, vd, vc]) : NetSt w0 sb pb l pr' ca' kk' vn vl vd vc ns ls ds cs (w.setCell ⟨pb, i, none⟩ u) := by
  have hb : Below w0.heap.size w (w.setCell ⟨pb, i, none⟩ u) := (Below.refl _ _).setCell (p := ⟨pb, i, none⟩) h.pb _
  exact ⟨h.below.trans hb, h.src.keep hb (fun _ hk => hk.far (p := ⟨pb, i, none⟩) (Ne.symm h.ne) _), by have := h.blk.set_ i u; rwa [hx] at this, own_set h.nodes h.blk (by decide) i u, own_set h.links h.blk (by decide) i u,
    h.dests.map fun he ho => own_set ho h.blk (by rcases he with rfl | rfl <;> decide) i u, own_set h.checks h.blk (by decide) i u, h.sb, h.pb', h.res.far (p := ⟨pb, i, none⟩) (Nat.ne_of_lt h.pb') _⟩
/-- A node more. -/
theorem NetSt.pushNode (h : NetSt w0 sb pb l pr ca kk vn vl vd vc ns ls ds cs w) {v' : Value} {x : PNode} (ho : w'.ownsRow w0.heap.size 56 2 v' (ns.length + 1) (ns.flatMap nodeC ++ nodeC x)) (hg : w.grownBy w' vn.ownBlock) :
    NetSt w0 sb pb l pr ca kk v' vl vd vc (ns ++ [x]) ls ds cs (w'.setCell ⟨pb, 3, none⟩ v') := by
  have hb : Below w0.heap.size w w' := (Below.refl _ _).grown hg h.lt (fun g hg => (h.nodes.lt g hg).1)
  have hblk : Blk w' pb _ _ := h.blk.grown hg (fun e1 => own_blk_ne h.nodes h.blk (by decide) e1.symm)
  have hsrc : SrcAt w0.heap.size sb l w' := h.src.keep hb (fun _ hk => hk.grown hg (fun e1 => own_blk_ne h.nodes hk (by decide) e1.symm))
  have hb2 : Below w0.heap.size w' (w'.setCell ⟨pb, 3, none⟩ v') := (Below.refl _ _).setCell (p := ⟨pb, 3, none⟩) h.pb _
  refine ⟨(h.below.trans hb).trans hb2, hsrc.keep hb2 (fun _ hk => hk.far (p := ⟨pb, 3, none⟩) (Ne.symm h.ne) _), hblk.set_ 3 v', ?_, own_set (own_far h.links h.nodes (by decide) hg) hblk (by decide) 3 v',
    h.dests.map fun he hx => own_set (own_far hx h.nodes (by rcases he with rfl | rfl <;> decide) hg) hblk (by rcases he with rfl | rfl <;> decide) 3 v', own_set (own_far h.checks h.nodes (by decide) hg) hblk (by decide) 3 v', h.sb, h.pb', (h.res.grown hg (fun e1 => own_blk_ne h.nodes h.res (by decide) e1.symm)).far (p := ⟨pb, 3, none⟩) (Nat.ne_of_lt h.pb') _⟩
  have := own_set ho hblk (by decide) 3 v'
  rw [List.length_append, List.flatMap_append]
  simpa using this
/-- A link more. -/
theorem NetSt.pushLink (h : NetSt w0 sb pb l pr ca kk vn vl vd vc ns ls ds cs w) {v' : Value} {x : PLink} (ho : w'.ownsRow w0.heap.size 53 3 v' (ls.length + 1) (ls.flatMap linkC ++ linkC x)) (hg : w.grownBy w' vl.ownBlock) :
    NetSt w0 sb pb l pr ca kk vn v' vd vc ns (ls ++ [x]) ds cs (w'.setCell ⟨pb, 4, none⟩ v') := by
  have hb : Below w0.heap.size w w' := (Below.refl _ _).grown hg h.lt (fun g hg => (h.links.lt g hg).1)
  have hblk : Blk w' pb _ _ := h.blk.grown hg (fun e1 => own_blk_ne h.links h.blk (by decide) e1.symm)
  have hsrc : SrcAt w0.heap.size sb l w' := h.src.keep hb (fun _ hk => hk.grown hg (fun e1 => own_blk_ne h.links hk (by decide) e1.symm))
  have hb2 : Below w0.heap.size w' (w'.setCell ⟨pb, 4, none⟩ v') := (Below.refl _ _).setCell (p := ⟨pb, 4, none⟩) h.pb _
  refine ⟨(h.below.trans hb).trans hb2, hsrc.keep hb2 (fun _ hk => hk.far (p := ⟨pb, 4, none⟩) (Ne.symm h.ne) _), hblk.set_ 4 v', own_set (own_far h.nodes h.links (by decide) hg) hblk (by decide) 4 v', ?_,
    h.dests.map fun he hx => own_set (own_far hx h.links (by rcases he with rfl | rfl <;> decide) hg) hblk (by rcases he with rfl | rfl <;> decide) 4 v', own_set (own_far h.checks h.links (by decide) hg) hblk (by decide) 4 v', h.sb, h.pb', (h.res.grown hg (fun e1 => own_blk_ne h.links h.res (by decide) e1.symm)).far (p := ⟨pb, 4, none⟩) (Nat.ne_of_lt h.pb') _⟩
  have := own_set ho hblk (by decide) 4 v'
  rw [List.length_append, List.flatMap_append]
  simpa using this
/-- A check more. -/
theorem NetSt.pushCheck (h : NetSt w0 sb pb l pr ca kk vn vl vd vc ns ls ds cs w) {v' : Value} {x : PCheck} (ho : w'.ownsRow w0.heap.size 67 5 v' (cs.length + 1) (cs.flatMap checkC ++ checkC x)) (hg : w.grownBy w' vc.ownBlock) :
    NetSt w0 sb pb l pr ca kk vn vl vd v' ns ls ds (cs ++ [x]) (w'.setCell ⟨pb, 6, none⟩ v') := by
  have hb : Below w0.heap.size w w' := (Below.refl _ _).grown hg h.lt (fun g hg => (h.checks.lt g hg).1)
  have hblk : Blk w' pb _ _ := h.blk.grown hg (fun e1 => own_blk_ne h.checks h.blk (by decide) e1.symm)
  have hsrc : SrcAt w0.heap.size sb l w' := h.src.keep hb (fun _ hk => hk.grown hg (fun e1 => own_blk_ne h.checks hk (by decide) e1.symm))
  have hb2 : Below w0.heap.size w' (w'.setCell ⟨pb, 6, none⟩ v') := (Below.refl _ _).setCell (p := ⟨pb, 6, none⟩) h.pb _
  refine ⟨(h.below.trans hb).trans hb2, hsrc.keep hb2 (fun _ hk => hk.far (p := ⟨pb, 6, none⟩) (Ne.symm h.ne) _), hblk.set_ 6 v', own_set (own_far h.nodes h.checks (by decide) hg) hblk (by decide) 6 v', own_set (own_far h.links h.checks (by decide) hg) hblk (by decide) 6 v',
    h.dests.map fun he hx => own_set (own_far hx h.checks (by rcases he with rfl | rfl <;> decide) hg) hblk (by rcases he with rfl | rfl <;> decide) 6 v', ?_, h.sb, h.pb', (h.res.grown hg (fun e1 => own_blk_ne h.checks h.res (by decide) e1.symm)).far (p := ⟨pb, 6, none⟩) (Nat.ne_of_lt h.pb') _⟩
  have := own_set ho hblk (by decide) 6 v'
  rw [List.length_append, List.flatMap_append]
  simpa using this
/-- A destination more; its numbers lie in a row of the call's own. -/
theorem NetSt.pushDest (h : NetSt w0 sb pb l pr ca kk vn vl vd vc ns ls ds cs w) (hs : List (Option Addr × Nat)) (h1 : hs.length = ds.length) (h2 : w.ownsRow w0.heap.size 65 2 vd ds.length ((ds.zip hs).flatMap destC))
    (h3 : ∀ (i : Nat) (d : PDest) (h : Option Addr × Nat), ds[i]? = some d → hs[i]? = some h → w.ownsRow w0.heap.size 3 1 (.slice h.1 d.orig.length h.2) d.orig.length (d.orig.map (Value.int .i64)))
    {v' : Value} {x : PDest} {A : Option Addr} {c : Nat} (hx : w.ownsRow w0.heap.size 3 1 (.slice A x.orig.length c) x.orig.length (x.orig.map (Value.int .i64)))
    (ho : w'.ownsRow w0.heap.size 65 2 v' (ds.length + 1) ((ds.zip hs).flatMap destC ++ destC (x, (A, c)))) (hg : w.grownBy w' vd.ownBlock) :
    NetSt w0 sb pb l pr ca kk vn vl v' vc ns ls (ds ++ [x]) cs (w'.setCell ⟨pb, 5, none⟩ v') := by
  have hb : Below w0.heap.size w w' := (Below.refl _ _).grown hg h.lt (fun g hg => (h2.lt g hg).1)
  have hblk : Blk w' pb _ _ := h.blk.grown hg (fun e1 => own_blk_ne h2 h.blk (by decide) e1.symm)
  have hsrc : SrcAt w0.heap.size sb l w' := h.src.keep hb (fun _ hk => hk.grown hg (fun e1 => own_blk_ne h2 hk (by decide) e1.symm))
  have hb2 : Below w0.heap.size w' (w'.setCell ⟨pb, 5, none⟩ v') := (Below.refl _ _).setCell (p := ⟨pb, 5, none⟩) h.pb _
  refine ⟨(h.below.trans hb).trans hb2, hsrc.keep hb2 (fun _ hk => hk.far (p := ⟨pb, 5, none⟩) (Ne.symm h.ne) _), hblk.set_ 5 v', own_set (own_far h.nodes h2 (by decide) hg) hblk (by decide) 5 v', own_set (own_far h.links h2 (by decide) hg) hblk (by decide) 5 v',
    ⟨hs ++ [(A, c)], by simp [h1], ?_, fun i d q e1 e2 => ?_⟩, own_set (own_far h.checks h2 (by decide) hg) hblk (by decide) 5 v', h.sb, h.pb', (h.res.grown hg (fun e1 => own_blk_ne h2 h.res (by decide) e1.symm)).far (p := ⟨pb, 5, none⟩) (Nat.ne_of_lt h.pb') _⟩
  · have := own_set ho hblk (by decide) 5 v'
    rw [List.length_append, List.zip_append h1.symm, List.flatMap_append]
    simpa using this
  · rcases Nat.lt_or_ge i ds.length with hi | hi
    · rw [List.getElem?_append_left hi] at e1
      rw [List.getElem?_append_left (by omega)] at e2
      exact own_set (own_far (h3 i d q e1 e2) h2 (by decide) hg) hblk (by decide) 5 v'
    · rw [List.getElem?_append_right hi] at e1
      rw [List.getElem?_append_right (by omega)] at e2
      have h0 : i - ds.length = 0 := by
        have := (List.getElem?_eq_some_iff.1 e1).1
        simp at this; omega
      rw [h0] at e1
      rw [h1, h0] at e2
      simp at e1 e2
      subst e1 e2
      exact own_set (own_far hx h2 (by decide) hg) hblk (by decide) 5 v'
end

end Go.Proofs.Ytlfdpfkimggeoaa
