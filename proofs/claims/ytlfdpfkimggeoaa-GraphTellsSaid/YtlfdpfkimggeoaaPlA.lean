/-
  Networks as plain data; how they lie in memory.
-/
import Derived.Laws.OwnMore
import Derived.Laws.Rows
import Derived.Test.YtlfdpfkimggeoaaOpen
import Derived.Outline
namespace Go.Proofs.Ytlfdpfkimggeoaa
open Go.RowKit

structure PNode where
  name : ByteArray
  num : Int
structure PLink where
  a : Int
  b : Int
  cost : Int
structure PDest where
  name : ByteArray
  orig : List Int
structure PCheck where
  kind : Int
  node : Int
  dest : Int
  limit : Int
  other : Int
structure PPlan where
  proto : Int
  cap : Int
  k : Int
  nodes : List PNode
  links : List PLink
  dests : List PDest
  checks : List PCheck

def nodeC (n : PNode) : List Value := [.string n.name, .int .i64 n.num]
def linkC (l : PLink) : List Value := [.int .i64 l.a, .int .i64 l.b, .int .i64 l.cost]
def checkC (c : PCheck) : List Value := [.int .i64 c.kind, .int .i64 c.node, .int .i64 c.dest, .int .i64 c.limit, .int .i64 c.other]
def destC (x : PDest × (Option Addr × Nat)) : List Value := [.string x.1.name, .slice x.2.1 x.1.orig.length x.2.2]

/-- Rows of s cells each, one after the other. -/
theorem rows_at {α : Type} (f : α → List Value) (s : Nat) (hs : ∀ x, (f x).length = s) (l : List α) (k : Nat) (x : α) (h : l[k]? = some x) (j : Nat) (u : Value) (hj : (f x)[j]? = some u) : (l.flatMap f)[k * s + j]? = some u := by
  induction l generalizing k with
  | nil => simp at h
  | cons y l ih =>
    rw [List.flatMap_cons]
    cases k with
    | zero =>
      simp at h
      subst h
      rw [List.getElem?_append_left (by have := (List.getElem?_eq_some_iff.1 hj).1; omega), ← hj]; congr 1; omega
    | succ k =>
      have e : (k + 1) * s = s + k * s := by rw [Nat.succ_mul, Nat.add_comm]
      rw [List.getElem?_append_right (by rw [hs]; omega), hs, ← ih k (by simpa using h)]
      congr 1; omega
theorem rows_len {α : Type} (f : α → List Value) (s : Nat) (hs : ∀ x, (f x).length = s) (l : List α) : (l.flatMap f).length = l.length * s := by
  induction l with
  | nil => simp
  | cons y l ih => rw [List.flatMap_cons, List.length_append, hs, ih, List.length_cons, Nat.succ_mul]; omega

/-- Cells that lie at the head of a block, below block B; none, if there are none. -/
def RowAt (w : World) (B : Nat) (A : Option Addr) (xs : List Value) : Prop := xs ≠ [] → ∃ g, A = some ⟨g, 0, none⟩ ∧ g < B ∧ ∀ j u, xs[j]? = some u → w.cell? ⟨g, j, none⟩ = some u
theorem RowAt.nil (w : World) (B : Nat) (A : Option Addr) : RowAt w B A [] := fun h => absurd rfl h
theorem RowAt.keep {w w' : World} {B : Nat} {A : Option Addr} {xs : List Value} (h : RowAt w B A xs) (hk : ∀ p : Addr, p.block < B → w'.cell? p = w.cell? p) : RowAt w' B A xs := fun hn => by
  obtain ⟨g, e, hb, hc⟩ := h hn
  exact ⟨g, e, hb, fun j u hu => (hk ⟨g, j, none⟩ hb).trans (hc j u hu)⟩
theorem RowAt.more {w : World} {B B' : Nat} {A : Option Addr} {xs : List Value} (h : RowAt w B A xs) (hB : B ≤ B') : RowAt w B' A xs := fun hn => by
  obtain ⟨g, e, hb, hc⟩ := h hn
  exact ⟨g, e, by omega, hc⟩
theorem RowAt.below {w w' : World} {B : Nat} {A : Option Addr} {xs : List Value} (h : RowAt w B A xs) (hb : Below B w w') : RowAt w' B A xs := h.keep fun _ hp => hb.cell hp
theorem RowAt.up {w w' : World} {A : Option Addr} {xs : List Value} (h : RowAt w w.heap.size A xs) (hb : Below w.heap.size w w') : RowAt w' w'.heap.size A xs := (h.below hb).more hb.size
theorem RowAt.of_own {w : World} {base size n c : Nat} {e : TypeId} {A : Option Addr} {xs : List Value} (h : w.ownsRow base e size (.slice A n c) n xs) : RowAt w w.heap.size A xs := by
  intro hn
  rcases h.2 with ⟨_, h0⟩ | ⟨g, cap, cur, hv, _, hgb, _⟩
  · subst h0
    have h1 := h.1
    rw [Nat.zero_mul] at h1
    exact absurd (List.eq_nil_of_length_eq_zero h1) hn
  · have hA : A = some ⟨g, 0, none⟩ := by injection hv
    subst hA
    refine ⟨g, rfl, (Array.getElem?_eq_some_iff.1 hgb).1, fun j u hu => ?_⟩
    have := h.cells (g := g) rfl j u hu
    unfold Addr.add at this
    split at this
    · rename_i hj; subst hj; exact this
    · rw [Nat.zero_add] at this; exact this
/-- A row's cells, row k. -/
theorem RowAt.at_ {α : Type} {f : α → List Value} {s : Nat} {w : World} {B : Nat} {A : Option Addr} {l : List α} (h : RowAt w B A (l.flatMap f)) (hs : ∀ x, (f x).length = s) (h0 : 0 < s) {k : Nat} {x : α} (hk : l[k]? = some x) :
    ∃ g, A = some ⟨g, 0, none⟩ ∧ g < B ∧ ∀ j u, (f x)[j]? = some u → w.cell? ⟨g, k * s + j, none⟩ = some u := by
  have hne : l.flatMap f ≠ [] := by
    intro e
    have h1 := rows_len f s hs l
    rw [e] at h1
    have h2 := (List.getElem?_eq_some_iff.1 hk).1
    have h3 : 1 * s ≤ l.length * s := Nat.mul_le_mul_right s (by omega)
    rw [← h1] at h3
    simp at h3
    omega
  obtain ⟨g, hA, hb, hc⟩ := h hne
  exact ⟨g, hA, hb, fun j u hj => hc _ _ (rows_at f s hs l k x hk j u hj)⟩

theorem RowAt.node {w : World} {B : Nat} {A : Option Addr} {l : List PNode} (h : RowAt w B A (l.flatMap nodeC)) {k : Nat} {x : PNode} (hk : l[k]? = some x) :
    ∃ g, A = some ⟨g, 0, none⟩ ∧ g < B ∧ w.cell? ⟨g, k * 2, none⟩ = some (.string x.name) ∧ w.cell? ⟨g, k * 2 + 1, none⟩ = some (.int .i64 x.num) := by
  obtain ⟨g, hA, hb, hc⟩ := h.at_ (s := 2) (fun _ => rfl) (by omega) hk
  exact ⟨g, hA, hb, hc 0 _ rfl, hc 1 _ rfl⟩
theorem RowAt.link {w : World} {B : Nat} {A : Option Addr} {l : List PLink} (h : RowAt w B A (l.flatMap linkC)) {k : Nat} {x : PLink} (hk : l[k]? = some x) :
    ∃ g, A = some ⟨g, 0, none⟩ ∧ g < B ∧ w.cell? ⟨g, k * 3, none⟩ = some (.int .i64 x.a) ∧ w.cell? ⟨g, k * 3 + 1, none⟩ = some (.int .i64 x.b) ∧ w.cell? ⟨g, k * 3 + 2, none⟩ = some (.int .i64 x.cost) := by
  obtain ⟨g, hA, hb, hc⟩ := h.at_ (s := 3) (fun _ => rfl) (by omega) hk
  exact ⟨g, hA, hb, hc 0 _ rfl, hc 1 _ rfl, hc 2 _ rfl⟩
theorem RowAt.check {w : World} {B : Nat} {A : Option Addr} {l : List PCheck} (h : RowAt w B A (l.flatMap checkC)) {k : Nat} {x : PCheck} (hk : l[k]? = some x) :
    ∃ g, A = some ⟨g, 0, none⟩ ∧ g < B ∧ w.cell? ⟨g, k * 5, none⟩ = some (.int .i64 x.kind) ∧ w.cell? ⟨g, k * 5 + 1, none⟩ = some (.int .i64 x.node) ∧ w.cell? ⟨g, k * 5 + 2, none⟩ = some (.int .i64 x.dest) ∧ w.cell? ⟨g, k * 5 + 3, none⟩ = some (.int .i64 x.limit) ∧ w.cell? ⟨g, k * 5 + 4, none⟩ = some (.int .i64 x.other) := by
  obtain ⟨g, hA, hb, hc⟩ := h.at_ (s := 5) (fun _ => rfl) (by omega) hk
  exact ⟨g, hA, hb, hc 0 _ rfl, hc 1 _ rfl, hc 2 _ rfl, hc 3 _ rfl, hc 4 _ rfl⟩
theorem RowAt.num {w : World} {B : Nat} {A : Option Addr} {l : List Int} (h : RowAt w B A (l.map (Value.int .i64))) {k : Nat} {x : Int} (hk : l[k]? = some x) :
    ∃ g, A = some ⟨g, 0, none⟩ ∧ g < B ∧ w.cell? ⟨g, k, none⟩ = some (.int .i64 x) := by
  obtain ⟨g, hA, hb, hc⟩ := h (by intro e; rw [List.map_eq_nil_iff] at e; rw [e] at hk; simp at hk)
  exact ⟨g, hA, hb, hc k _ (by rw [List.getElem?_map, hk]; rfl)⟩

/-- Destinations in memory: a row of names and slices, each slice with its numbers. -/
def DestsAt (w : World) (B : Nat) (A : Option Addr) (ds : List PDest) : Prop :=
  ∃ hs : List (Option Addr × Nat), hs.length = ds.length ∧ RowAt w B A ((ds.zip hs).flatMap destC) ∧ ∀ (i : Nat) (d : PDest) (h : Option Addr × Nat), ds[i]? = some d → hs[i]? = some h → RowAt w B h.1 (d.orig.map (Value.int .i64))
theorem DestsAt.keep {w w' : World} {B : Nat} {A : Option Addr} {ds : List PDest} (h : DestsAt w B A ds) (hk : ∀ p : Addr, p.block < B → w'.cell? p = w.cell? p) : DestsAt w' B A ds := by
  obtain ⟨hs, h1, h2, h3⟩ := h
  exact ⟨hs, h1, h2.keep hk, fun i d h e1 e2 => (h3 i d h e1 e2).keep hk⟩
theorem DestsAt.more {w : World} {B B' : Nat} {A : Option Addr} {ds : List PDest} (h : DestsAt w B A ds) (hB : B ≤ B') : DestsAt w B' A ds := by
  obtain ⟨hs, h1, h2, h3⟩ := h
  exact ⟨hs, h1, h2.more hB, fun i d h e1 e2 => (h3 i d h e1 e2).more hB⟩
theorem DestsAt.up {w w' : World} {A : Option Addr} {ds : List PDest} (h : DestsAt w w.heap.size A ds) (hb : Below w.heap.size w w') : DestsAt w' w'.heap.size A ds := (h.keep fun _ hp => hb.cell hp).more hb.size
theorem DestsAt.dest {w : World} {B : Nat} {A : Option Addr} {ds : List PDest} (h : DestsAt w B A ds) {k : Nat} {d : PDest} (hk : ds[k]? = some d) :
    ∃ g Ao c, A = some ⟨g, 0, none⟩ ∧ g < B ∧ w.cell? ⟨g, k * 2, none⟩ = some (.string d.name) ∧ w.cell? ⟨g, k * 2 + 1, none⟩ = some (.slice Ao d.orig.length c) ∧ RowAt w B Ao (d.orig.map (Value.int .i64)) := by
  obtain ⟨hs, h1, h2, h3⟩ := h
  have hlt := (List.getElem?_eq_some_iff.1 hk).1
  obtain ⟨q, hq⟩ : ∃ q, hs[k]? = some q := ⟨_, List.getElem?_eq_getElem (by omega)⟩
  have hz : (ds.zip hs)[k]? = some (d, q) := by rw [List.getElem?_zip_eq_some]; exact ⟨hk, hq⟩
  obtain ⟨g, hA, hb, hc⟩ := h2.at_ (s := 2) (fun _ => rfl) (by omega) hz
  exact ⟨g, q.1, q.2, hA, hb, hc 0 _ rfl, hc 1 _ rfl, h3 k d q hk hq⟩

/-- A network in memory: its slices at these places, of these lengths. -/
structure PAt (w : World) (p : PPlan) (pr ca kk : Int) (An : Option Addr) (ln : Nat) (Al : Option Addr) (ll : Nat) (Ad : Option Addr) (ld : Nat) (Ac : Option Addr) (lc : Nat) : Prop where
  pr : p.proto = pr
  ca : p.cap = ca
  kk : p.k = kk
  ln : p.nodes.length = ln
  ll : p.links.length = ll
  ld : p.dests.length = ld
  lc : p.checks.length = lc
  nodes : RowAt w w.heap.size An (p.nodes.flatMap nodeC)
  links : RowAt w w.heap.size Al (p.links.flatMap linkC)
  dests : DestsAt w w.heap.size Ad p.dests
  checks : RowAt w w.heap.size Ac (p.checks.flatMap checkC)
theorem PAt.up {w w' : World} {p : PPlan} {pr ca kk : Int} {An Al Ad Ac : Option Addr} {ln ll ld lc : Nat} (h : PAt w p pr ca kk An ln Al ll Ad ld Ac lc) (hb : Below w.heap.size w w') : PAt w' p pr ca kk An ln Al ll Ad ld Ac lc :=
  ⟨h.pr, h.ca, h.kk, h.ln, h.ll, h.ld, h.lc, h.nodes.up hb, h.links.up hb, h.dests.up hb, h.checks.up hb⟩

/-- A block known whole. -/
def Blk (w : World) (g : Nat) (t : TypeId) (cs : Array Value) : Prop := w.heap[g]? = some (.cells cs t (0, 0))
section
variable {w w' : World} {g : Nat} {t : TypeId} {cs : Array Value}
theorem Blk.lt (h : Blk w g t cs) : g < w.heap.size := by
  rcases Nat.lt_or_ge g w.heap.size with hlt | hge
  · exact hlt
  · unfold Blk at h; rw [Array.getElem?_eq_none hge] at h; cases h
theorem Blk.cell (h : Blk w g t cs) (i : Nat) : w.cell? ⟨g, i, none⟩ = cs[i]? := cell_of_row w g i cs t (0, 0) h
theorem Blk.frozen (h : Blk w g t cs) (i : Nat) : w.frozen? ⟨g, i, none⟩ = false := by
  unfold Blk at h
  simp [World.frozen?, h]
theorem Blk.new (w : World) (t : TypeId) (cs : Array Value) : Blk (w.alloc (.cells cs t)) w.heap.size t cs := heap_alloc_new w _
theorem Blk.alloc (h : Blk w g t cs) (o : Obj) : Blk (w.alloc o) g t cs := (Below.heap_alloc w o g h.lt).trans h
theorem Blk.set_ (h : Blk w g t cs) (i : Nat) (u : Value) : Blk (w.setCell ⟨g, i, none⟩ u) g t (cs.setIfInBounds i u) := by
  unfold Blk at h ⊢
  simp [World.setCell, Array.getElem?_modify, h]
theorem Blk.far (h : Blk w g t cs) {p : Addr} (hp : g ≠ p.block) (u : Value) : Blk (w.setCell p u) g t cs := (Below.heap_setCell w p u g hp).trans h
theorem Blk.below {B : Nat} (h : Blk w g t cs) (hb : Below B w w') (hg : g < B) : Blk w' g t cs := (hb.block g hg).trans h
theorem Blk.up (h : Blk w g t cs) (hb : Below w.heap.size w w') : Blk w' g t cs := h.below hb h.lt
theorem Blk.grown {row : Option Nat} (h : Blk w g t cs) (hb : w.grownBy w' row) (hg : some g ≠ row) : Blk w' g t cs := (hb.block g h.lt hg).trans h
theorem Blk.ne_ {g' : Nat} {t' : TypeId} {cs' : Array Value} (h : Blk w g t cs) (h' : Blk w g' t' cs') (hne : t ≠ t') : g ≠ g' := by
  rintro rfl
  unfold Blk at h h'
  rw [h] at h'
  injection h' with h'
  injection h' with _ ht
  exact hne ht
theorem own_blk_ne {base : Nat} {e : TypeId} {size n : Nat} {v : Value} {xs : List Value} (h : w.ownsRow base e size v n xs) (hg : Blk w g t cs) (hne : e ≠ t) : v.ownBlock ≠ some g := by
  rcases h.2 with ⟨rfl, _⟩ | ⟨g', cap, cur, rfl, _, hh, _⟩
  · simp [Value.ownBlock]
  · intro he
    have : g' = g := by simpa [Value.ownBlock] using he
    subst this
    exact Blk.ne_ (t := e) hh hg hne rfl
end

end Go.Proofs.Ytlfdpfkimggeoaa

namespace Go.Proofs.Ytlfdpfkimggeoaa
open Go.RowKit

/-- Is a number within two bounds? -/
def withinB (n least most : Int) : Bool := decide (least ≤ n) && decide (n ≤ most)
theorem isWithin_any (n least most : Int) (w : World) :
    Calls Try.prog 53 #[.int .i64 n, .int .i64 least, .int .i64 most] w fun e w' => e = .returned (.bool (withinB n least most)) ∧ w = w' := by
  by_cases h1 : least ≤ n
  · by_cases h2 : n ≤ most
    · go_enter Try.func53, Try.ntmps53
      go_wp2
      go_ret
      exact ⟨ret_bool (by unfold withinB; simp [h1, h2]), rfl⟩
    · go_enter Try.func53, Try.ntmps53
      go_wp2
      go_ret
      exact ⟨ret_bool (by unfold withinB; simp [h1, h2]), rfl⟩
  · go_enter Try.func53, Try.ntmps53
    go_wp2
    go_ret
    exact ⟨ret_bool (by unfold withinB; rw [decide_eq_false (show ¬ least ≤ n by omega)]; rfl), rfl⟩
theorem isWithin_is (n least most : Int) (b : Bool) (H : Hid (withinB n least most = b)) (w : World) :
    Calls Try.prog 53 #[.int .i64 n, .int .i64 least, .int .i64 most] w fun e w' => e = .returned (.bool b) ∧ w = w' :=
  (isWithin_any n least most w).mono fun _ _ ⟨he, hw⟩ => ⟨by rw [he, H.out], hw⟩

/-- Is a number one of so many places? -/
def placeB (n : Int) (many : Nat) : Bool := decide (0 ≤ n) && decide (n < many)
theorem isPlace_any (n : Int) (many : Nat) (hm : many ≤ 9223372036854775807) (w : World) :
    Calls Try.prog 69 #[.int .i64 n, .int .i64 (many : Int)] w fun e w' => e = .returned (.bool (placeB n many)) ∧ w = w' := by
  go_enter Try.func69, Try.ntmps69
  go_wp2_with (go_at_call 53; refine (isWithin_any _ _ _ _).mono ?_; rintro e w' ⟨rfl, rfl⟩)
  go_ret
  refine ⟨ret_bool ?_, rfl⟩
  unfold withinB placeB
  congr 1
  rw [decide_eq_decide]; omega
theorem isPlace_is (n : Int) (many : Nat) (hm : many ≤ 9223372036854775807) (b : Bool) (H : Hid (placeB n many = b)) (w : World) :
    Calls Try.prog 69 #[.int .i64 n, .int .i64 (many : Int)] w fun e w' => e = .returned (.bool b) ∧ w = w' :=
  (isPlace_any n many hm w).mono fun _ _ ⟨he, hw⟩ => ⟨by rw [he, H.out], hw⟩

/-- Which protocol. -/
def protoB (pr ca : Int) : Bool := if pr = 1 then decide (ca = 0) else if pr = 2 then withinB ca 1 12 else false
theorem rightProto_any (pr ca kk : Int) (An Al Ad Ac : Option Addr) (ln cn ll cl ld cd lc cc : Nat) (w : World) :
    Calls Try.prog 52 #[.agg #[.int .i64 pr, .int .i64 ca, .int .i64 kk, .slice An ln cn, .slice Al ll cl, .slice Ad ld cd, .slice Ac lc cc]] w fun e w' => e = .returned (.bool (protoB pr ca)) ∧ Below w.heap.size w w' := by
  by_cases h1 : pr = 1
  · subst h1
    by_cases h2 : ca = 0
    · subst h2
      go_enter Try.func52, Try.ntmps52
      go_wp2
      go_ret
      exact ⟨rfl, (Below.refl _ _).alloc (Nat.le_refl _) _⟩
    · have h3 : ((ca : Int) == 0) = false := by simpa using h2
      go_enter Try.func52, Try.ntmps52
      go_wp2
      go_ret
      exact ⟨ret_bool (by unfold protoB; simp [h2]), (Below.refl _ _).alloc (Nat.le_refl _) _⟩
  · have h3 : ((pr : Int) == 1) = false := by simpa using h1
    by_cases h2 : pr = 2
    · subst h2
      clear h1 h3
      go_enter Try.func52, Try.ntmps52
      go_wp2_with (go_at_call 53; refine (isWithin_any _ _ _ _).mono ?_; rintro e w' ⟨rfl, rfl⟩)
      go_ret
      exact ⟨rfl, (Below.refl _ _).alloc (Nat.le_refl _) _⟩
    · have h4 : ((pr : Int) == 2) = false := by simpa using h2
      go_enter Try.func52, Try.ntmps52
      go_wp2
      go_ret
      exact ⟨ret_bool (by unfold protoB; rw [if_neg h1, if_neg h2]), (Below.refl _ _).alloc (Nat.le_refl _) _⟩

end Go.Proofs.Ytlfdpfkimggeoaa
