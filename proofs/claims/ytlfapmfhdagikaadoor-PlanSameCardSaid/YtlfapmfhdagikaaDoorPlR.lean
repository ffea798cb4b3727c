/-
  Raw numbers as a network: plain facts.
-/
import Derived.Test.YtlfapmfhdagikaaDoorPlP
namespace Go.Proofs.YtlfapmfhdagikaaDoor

/-- What a source of raw numbers tells, one below n. -/
def nx (l : List Int) (n : Nat) : Nat := match l with
  | [] => 0
  | c :: _ => (pickN c n).toNat
theorem nx_lt (l : List Int) (n : Nat) (h : 0 < n) : nx l n < n := by
  cases l with
  | nil => exact h
  | cons c r =>
    obtain ⟨h1, h2⟩ := pickN_in c n (by omega)
    show (pickN c n).toNat < n
    omega

def nmG (i : Nat) : ByteArray := ([⟨#[97]⟩, ⟨#[98]⟩, ⟨#[99]⟩, ⟨#[100]⟩, ⟨#[101]⟩, ⟨#[102]⟩, ⟨#[103]⟩] : List ByteArray).getD i ⟨#[]⟩
def dnG (i : Nat) : ByteArray := ([⟨#[120]⟩, ⟨#[121]⟩] : List ByteArray).getD i ⟨#[]⟩

def nodeG (i : Nat) (l : List Int) : PNode := ⟨nmG i, if 0 < nx l.tail 3 then 10 + (i : Int) else 1 + (nx l 9 : Int)⟩
def nodesG (l : List Int) : Nat → List PNode × List Int
  | 0 => ([], l)
  | k + 1 => ((nodesG l k).1 ++ [nodeG k (nodesG l k).2], (nodesG l k).2.tail.tail)

def hasL (ls : List PLink) (a b : Nat) : Bool := ls.any (linkIs a b)
def endsG (n i : Nat) (l : List Int) : (Nat × Nat) × List Int :=
  if n ≤ i + 1 then ((nx l n, nx l.tail n), l.tail.tail)
  else if nx l 4 = 0 then ((nx l.tail n, nx l.tail.tail n), l.tail.tail.tail)
  else ((i, i + 1), l.tail)
/-- A link between two, if there is none yet. -/
def joinG (a b : Nat) (ls : List PLink) (l : List Int) : List PLink × List Int :=
  if a ≠ b ∧ hasL ls a b = false then (ls ++ [⟨a, b, ((1 + nx l 15 % (1 + nx l.tail 15) : Nat) : Int)⟩], l.tail.tail) else (ls, l)
def linkG (n i : Nat) (S : List PLink × List Int) : List PLink × List Int :=
  joinG (min (endsG n i S.2).1.1 (endsG n i S.2).1.2) (max (endsG n i S.2).1.1 (endsG n i S.2).1.2) S.1 (endsG n i S.2).2
def linksG (n : Nat) (l : List Int) : Nat → List PLink × List Int
  | 0 => ([], l)
  | k + 1 => linkG n k (linksG n l k)

def destG (n : Nat) (S : List PDest × List Int) : List PDest × List Int :=
  if nx S.2.tail 3 = 0 ∧ nx S.2 n + 1 < n then (S.1 ++ [⟨dnG S.1.length, [(nx S.2 n : Int), ((nx S.2 n + 1 + nx S.2.tail.tail (n - nx S.2 n - 1) : Nat) : Int)]⟩], S.2.tail.tail.tail)
  else (S.1 ++ [⟨dnG S.1.length, [(nx S.2 n : Int)]⟩], S.2.tail.tail)
def destsG (n : Nat) (l : List Int) : Nat → List PDest × List Int
  | 0 => ([], l)
  | k + 1 => destG n (destsG n l k)

def checkG (n nd : Nat) (S : List PCheck × List Int) : List PCheck × List Int :=
  if nx S.2 4 = 1 then (S.1 ++ [⟨2, nx S.2.tail n, nx S.2.tail.tail nd, nx S.2.tail.tail.tail 20, 0⟩], S.2.tail.tail.tail.tail)
  else if nx S.2 4 = 0 then (S.1 ++ [⟨1, nx S.2.tail n, nx S.2.tail.tail nd, 0, 0⟩], S.2.tail.tail.tail)
  else (S.1 ++ [⟨1 + (nx S.2 4 : Int), nx S.2.tail n, nx S.2.tail.tail nd, 0, nx S.2.tail.tail.tail n⟩], S.2.tail.tail.tail.tail)
def checksG (n nd : Nat) (l : List Int) : Nat → List PCheck × List Int
  | 0 => ([], l)
  | k + 1 => checkG n nd (checksG n nd l k)

/-- Protocol, cap, and what is left. -/
def protoG (l : List Int) : (Int × Int) × List Int := if nx l 2 = 1 then ((2, ((1 + nx l.tail 6 : Nat) : Int)), l.tail.tail) else ((1, 0), l.tail)
def nG (l : List Int) : Nat := 2 + nx (protoG l).2.tail 6
def nodesOf (l : List Int) : List PNode × List Int := nodesG (protoG l).2.tail.tail (nG l)
def linksOf (l : List Int) : List PLink × List Int := linksG (nG l) (nodesOf l).2.tail (nx (nodesOf l).2 10)
def ndG (l : List Int) : Nat := nx (linksOf l).2 2 + 1
def destsOf (l : List Int) : List PDest × List Int := destsG (nG l) (linksOf l).2.tail (ndG l)
def checksOf (l : List Int) : List PCheck × List Int := checksG (nG l) (ndG l) (destsOf l).2.tail (nx (destsOf l).2 7)
/-- The network of raw numbers. -/
def netL (l : List Int) : PPlan := ⟨(protoG l).1.1, (protoG l).1.2, min (nx (protoG l).2 4 : Int) ((linksOf l).1.length : Int), (nodesOf l).1, (linksOf l).1, (destsOf l).1, (checksOf l).1⟩
def netOf (raw : List Int) : PPlan := netL (raw.take 200)

/-! ### What is so of it -/
theorem ixF_eq {α : Type} (p : α → Bool) : ∀ (l : List α) (i s : Nat) (x : α), l[i]? = some x → p x = true → (∀ j y, j < i → l[j]? = some y → p y = false) → ixF p l s = (s + i : Nat)
  | [], i, s, x, h, _, _ => by simp at h
  | z :: r, 0, s, x, h, hp, _ => by
    simp at h
    subst h
    rw [ixF, if_pos hp]; rfl
  | z :: r, i + 1, s, x, h, hp, hn => by
    have hz := hn 0 z (by omega) rfl
    rw [ixF, if_neg (by rw [hz]; simp), ixF_eq p r i (s + 1) x (by simpa using h) hp (fun j y hj hy => hn (j + 1) y (by omega) (by simpa using hy))]
    congr 1; omega
theorem ixB_eq {α : Type} (p : α → Bool) (l : List α) (i : Nat) (x : α) (hx : l[i]? = some x) (hp : p x = true) (hn : ∀ j y, j < i → l[j]? = some y → p y = false) : ixB p l = i := by
  unfold ixB
  rw [ixF_eq p l i 0 x hx hp hn]; congr 1; omega
theorem ixB_none {α : Type} (p : α → Bool) (l : List α) (hn : ∀ (j : Nat) (y : α), l[j]? = some y → p y = false) : ixB p l = -1 := by
  have : ∀ (l : List α) (s : Nat), (∀ (j : Nat) (y : α), l[j]? = some y → p y = false) → ixF p l s = -1 := by
    intro l
    induction l with
    | nil => intro s _; rfl
    | cons z r ih =>
      intro s h
      rw [ixF, if_neg (by rw [h 0 z rfl]; simp)]
      exact ih (s + 1) fun j y hj => h (j + 1) y (by simpa using hj)
  exact this l 0 hn

theorem nG_in (l : List Int) : 2 ≤ nG l ∧ nG l ≤ 7 := by unfold nG; have := nx_lt (protoG l).2.tail 6 (by omega); omega
theorem nodesG_len (l : List Int) : ∀ k, (nodesG l k).1.length = k
  | 0 => rfl
  | k + 1 => by rw [nodesG, List.length_append, nodesG_len l k]; rfl
theorem nodesG_at (l : List Int) : ∀ (k i : Nat) (x : PNode), (nodesG l k).1[i]? = some x → i < k ∧ x.name = nmG i ∧ 1 ≤ x.num ∧ x.num ≤ 10 + i
  | 0, i, x, h => by simp [nodesG] at h
  | k + 1, i, x, h => by
    rw [nodesG] at h
    rcases Nat.lt_or_ge i k with hi | hi
    · rw [List.getElem?_append_left (by rw [nodesG_len]; exact hi)] at h
      obtain ⟨_, h2⟩ := nodesG_at l k i x h
      exact ⟨by omega, h2⟩
    · rw [List.getElem?_append_right (by rw [nodesG_len]; exact hi), nodesG_len] at h
      have h0 : i - k = 0 := by
        have := (List.getElem?_eq_some_iff.1 h).1
        simp at this; omega
      rw [h0] at h
      simp at h
      subst h
      have e : i = k := by omega
      subst e
      unfold nodeG
      dsimp only
      have := nx_lt (nodesG l i).2 9 (by omega)
      refine ⟨by omega, rfl, ?_, ?_⟩ <;> split <;> omega

theorem linkIs_iff (a b : Int) (o : PLink) : linkIs a b o = true ↔ o.a = a ∧ o.b = b := by unfold linkIs; simp
/-- Links that may be: their ends are nodes, in order; no two are alike. -/
def LinksOk (n : Nat) (ls : List PLink) : Prop :=
  ∀ (i : Nat) (x : PLink), ls[i]? = some x → (∃ a b c : Nat, x.a = a ∧ x.b = b ∧ x.cost = c ∧ a < b ∧ b < n ∧ 1 ≤ c ∧ c ≤ 15) ∧ ∀ (j : Nat) (y : PLink), j < i → ls[j]? = some y → linkIs x.a x.b y = false
theorem joinG_ok (n : Nat) {ls : List PLink} (h : LinksOk n ls) (a b : Nat) (l : List Int) (hab : a ≤ b) (hb : b < n) : LinksOk n (joinG a b ls l).1 ∧ (joinG a b ls l).1.length ≤ ls.length + 1 := by
  unfold joinG
  split
  · rename_i hc
    refine ⟨fun i x hx => ?_, by simp⟩
    dsimp only at hx ⊢
    rcases Nat.lt_or_ge i ls.length with hi | hi
    · rw [List.getElem?_append_left hi] at hx
      obtain ⟨h1, h2⟩ := h i x hx
      exact ⟨h1, fun j y hj hy => h2 j y hj (by rw [List.getElem?_append_left (by omega)] at hy; exact hy)⟩
    · rw [List.getElem?_append_right hi] at hx
      have h0 : i - ls.length = 0 := by
        have := (List.getElem?_eq_some_iff.1 hx).1
        simp at this; omega
      rw [h0] at hx
      simp at hx
      subst hx
      have c1 := nx_lt l 15 (by omega)
      have c2 := nx_lt l.tail 15 (by omega)
      have c3 : nx l 15 % (1 + nx l.tail 15) < 15 := Nat.lt_of_le_of_lt (Nat.mod_le _ _) c1
      refine ⟨⟨a, b, (1 + nx l 15 % (1 + nx l.tail 15) : Nat), rfl, rfl, rfl, by omega, hb, by omega, by omega⟩, fun j y hj hy => ?_⟩
      rw [List.getElem?_append_left (by omega)] at hy
      have hh := hc.2
      unfold hasL at hh
      rw [List.any_eq_false] at hh
      have := hh y (List.mem_of_getElem? hy)
      simpa using this
  · exact ⟨h, by simp⟩
theorem endsG_in (n i : Nat) (l : List Int) (hn : 0 < n) : (endsG n i l).1.1 < n ∧ (endsG n i l).1.2 < n := by
  unfold endsG
  split
  · exact ⟨nx_lt _ _ hn, nx_lt _ _ hn⟩
  · split
    · exact ⟨nx_lt _ _ hn, nx_lt _ _ hn⟩
    · dsimp only; omega
theorem linksG_ok (n : Nat) (l : List Int) (hn : 0 < n) : ∀ k, LinksOk n (linksG n l k).1 ∧ (linksG n l k).1.length ≤ k
  | 0 => ⟨fun i x h => by simp [linksG] at h, by simp [linksG]⟩
  | k + 1 => by
    obtain ⟨h1, h2⟩ := linksG_ok n l hn k
    obtain ⟨e1, e2⟩ := endsG_in n k (linksG n l k).2 hn
    rw [linksG, linkG]
    obtain ⟨g1, g2⟩ := joinG_ok n h1 (min (endsG n k (linksG n l k).2).1.1 (endsG n k (linksG n l k).2).1.2) (max (endsG n k (linksG n l k).2).1.1 (endsG n k (linksG n l k).2).1.2) (endsG n k (linksG n l k).2).2 (by omega) (by omega)
    exact ⟨g1, by omega⟩

/-- Destinations that may be. -/
def DestsOk (n : Nat) (ds : List PDest) : Prop :=
  ∀ (i : Nat) (d : PDest), ds[i]? = some d → d.name = dnG i ∧ ((∃ o : Nat, d.orig = [(o : Int)] ∧ o < n) ∨ (∃ o o2 : Nat, d.orig = [(o : Int), (o2 : Int)] ∧ o < o2 ∧ o2 < n))
theorem destsG_ok (n : Nat) (l : List Int) (hn : 0 < n) : ∀ k, DestsOk n (destsG n l k).1 ∧ (destsG n l k).1.length = k
  | 0 => ⟨fun i x h => by simp [destsG] at h, by simp [destsG]⟩
  | k + 1 => by
    obtain ⟨h1, h2⟩ := destsG_ok n l hn k
    rw [destsG]
    have ho := nx_lt (destsG n l k).2 n hn
    unfold destG
    split
    · rename_i hc
      refine ⟨fun i d hd => ?_, by dsimp only; rw [List.length_append, h2]; rfl⟩
      dsimp only at hd
      rcases Nat.lt_or_ge i (destsG n l k).1.length with hi | hi
      · rw [List.getElem?_append_left hi] at hd
        exact h1 i d hd
      · rw [List.getElem?_append_right hi] at hd
        have h0 : i - (destsG n l k).1.length = 0 := by
          have := (List.getElem?_eq_some_iff.1 hd).1
          simp at this; omega
        rw [h0] at hd
        simp only [List.getElem?_cons_zero, Option.some.injEq] at hd
        subst hd
        have := nx_lt (destsG n l k).2.tail.tail (n - nx (destsG n l k).2 n - 1) (by omega)
        exact ⟨by dsimp only; congr 1; omega, .inr ⟨nx (destsG n l k).2 n, (nx (destsG n l k).2 n + 1 + nx (destsG n l k).2.tail.tail (n - nx (destsG n l k).2 n - 1) : Nat), rfl, by omega, by omega⟩⟩
    · refine ⟨fun i d hd => ?_, by dsimp only; rw [List.length_append, h2]; rfl⟩
      dsimp only at hd
      rcases Nat.lt_or_ge i (destsG n l k).1.length with hi | hi
      · rw [List.getElem?_append_left hi] at hd
        exact h1 i d hd
      · rw [List.getElem?_append_right hi] at hd
        have h0 : i - (destsG n l k).1.length = 0 := by
          have := (List.getElem?_eq_some_iff.1 hd).1
          simp at this; omega
        rw [h0] at hd
        simp at hd
        subst hd
        exact ⟨by dsimp only; congr 1; omega, .inl ⟨_, rfl, ho⟩⟩

/-- Checks that may be. -/
def ChecksOk (n nd : Nat) (cs : List PCheck) : Prop :=
  ∀ c ∈ cs, ∃ i d li o : Nat, c.node = i ∧ c.dest = d ∧ c.limit = li ∧ c.other = o ∧ i < n ∧ d < nd ∧ o < n ∧ li < 20 ∧ ((c.kind = 1 ∧ li = 0 ∧ o = 0) ∨ (c.kind = 2 ∧ o = 0) ∨ (c.kind = 3 ∧ li = 0) ∨ (c.kind = 4 ∧ li = 0))
theorem checksG_ok (n nd : Nat) (l : List Int) (hn : 0 < n) (hd : 0 < nd) : ∀ k, ChecksOk n nd (checksG n nd l k).1 ∧ (checksG n nd l k).1.length = k
  | 0 => ⟨fun c h => by simp [checksG] at h, by simp [checksG]⟩
  | k + 1 => by
    obtain ⟨h1, h2⟩ := checksG_ok n nd l hn hd k
    rw [checksG]
    generalize hS : checksG n nd l k = S at h1 h2
    have k4 := nx_lt S.2 4 (by omega)
    have k5 := nx_lt S.2.tail n hn
    have k6 := nx_lt S.2.tail.tail nd hd
    have k7 := nx_lt S.2.tail.tail.tail 20 (by omega)
    have k8 := nx_lt S.2.tail.tail.tail n hn
    unfold checkG
    split
    · refine ⟨fun c hc => ?_, by simp [h2]⟩
      simp only [List.mem_append, List.mem_singleton] at hc
      rcases hc with hc | rfl
      · exact h1 c hc
      · exact ⟨_, _, _, 0, rfl, rfl, rfl, rfl, k5, k6, hn, k7, .inr (.inl ⟨rfl, rfl⟩)⟩
    · split
      · refine ⟨fun c hc => ?_, by simp [h2]⟩
        simp only [List.mem_append, List.mem_singleton] at hc
        rcases hc with hc | rfl
        · exact h1 c hc
        · exact ⟨_, _, 0, 0, rfl, rfl, rfl, rfl, k5, k6, hn, by omega, .inl ⟨rfl, rfl, rfl⟩⟩
      · refine ⟨fun c hc => ?_, by simp [h2]⟩
        simp only [List.mem_append, List.mem_singleton] at hc
        rcases hc with hc | rfl
        · exact h1 c hc
        · refine ⟨_, _, 0, _, rfl, rfl, rfl, rfl, k5, k6, k8, by omega, ?_⟩
          dsimp only
          omega

end Go.Proofs.YtlfapmfhdagikaaDoor
