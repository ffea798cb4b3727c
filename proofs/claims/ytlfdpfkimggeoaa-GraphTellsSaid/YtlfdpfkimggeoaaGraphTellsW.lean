/-
  GraphTells: the walk.
-/
import Derived.Test.YtlfdpfkimggeoaaGtC
import Derived.Test.YtlfdpfkimggeoaaGrI
import Derived.Test.YtlfdpfkimggeoaaPlXh
import Derived.Deep.RegionHeld3
namespace Go.Proofs.Ytlfdpfkimggeoaa
open Go.RowKit
set_option linter.unusedVariables false
set_option linter.unusedSimpArgs false

theorem wild_forms {w w' : World} {e : Ending} (h : WildAs w e w') : ∃ p An cn Al cl Ad cd Ac cc, PFine p ∧ e = .returned (.agg #[.int .i64 p.proto, .int .i64 p.cap, .int .i64 p.k, .slice An p.nodes.length cn, .slice Al p.links.length cl, .slice Ad p.dests.length cd, .slice Ac p.checks.length cc]) ∧ PAt w' p p.proto p.cap p.k An p.nodes.length Al p.links.length Ad p.dests.length Ac p.checks.length ∧ Below w.heap.size w w' := by
  obtain ⟨p, vn, vl, vd, vc, hf, he, ho, hb⟩ := h
  obtain ⟨An, cn, rfl, _⟩ := own_form ho.nodes
  obtain ⟨Al, cl, rfl, _⟩ := own_form ho.links
  obtain ⟨hs, _, h2, _⟩ := ho.dests
  obtain ⟨Ad, cd, rfl, _⟩ := own_form h2
  obtain ⟨Ac, cc, rfl, _⟩ := own_form ho.checks
  exact ⟨p, An, cn, Al, cl, Ad, cd, Ac, cc, hf, he, ho.at_, hb⟩
theorem below_on {w w1 w2 : World} (h : Below w.heap.size w w1) (h2 : Below w1.heap.size w1 w2) : Below w.heap.size w w2 := h.trans (h2.mono h.size)
theorem Around_g {p : PPlan} (f : Int) (a : Int) (L : List Nat) (HL : Hid (aroundG p f a = L)) {An Al Ad Ac : Option Addr} {cn cl cd cc : Nat} {w : World} (h : PAt w p p.proto p.cap p.k An p.nodes.length Al p.links.length Ad p.dests.length Ac p.checks.length) (hs : PSmall p) :
    Calls Try.prog 11 #[.agg #[.int .i64 p.proto, .int .i64 p.cap, .int .i64 p.k, .slice An p.nodes.length cn, .slice Al p.links.length cl, .slice Ad p.dests.length cd, .slice Ac p.checks.length cc], .int .i64 f, .int .i64 a] w (Lists L w) := by
  have hl := HL.out
  unfold aroundG at hl
  cases hr : rightB p
  · rw [hr, if_neg (by simp)] at hl
    subst hl
    exact (Around_no f a (Lib.hid hr) hs h).mono fun e w' ⟨he, hb⟩ => ⟨none, 0, he, World.ownsRow_nil _ _ _ _, hb⟩
  · rw [hr, if_pos rfl] at hl
    exact Around_ok f a L L.length (Lib.hid hl) (Lib.hid rfl) (Lib.hid hr) hs h
theorem Reach_g {p : PPlan} (f : Int) (a : Int) (L : List Nat) (HL : Hid (reachG p f a = L)) {An Al Ad Ac : Option Addr} {cn cl cd cc : Nat} {w : World} (h : PAt w p p.proto p.cap p.k An p.nodes.length Al p.links.length Ad p.dests.length Ac p.checks.length) (hs : PSmall p) :
    Calls Try.prog 15 #[.agg #[.int .i64 p.proto, .int .i64 p.cap, .int .i64 p.k, .slice An p.nodes.length cn, .slice Al p.links.length cl, .slice Ad p.dests.length cd, .slice Ac p.checks.length cc], .int .i64 f, .int .i64 a] w (Lists L w) := by
  have hl := HL.out
  unfold reachG at hl
  cases hr : rightB p
  · rw [hr, if_neg (by simp)] at hl
    subst hl
    exact (Reach_no f a (Lib.hid hr) hs h).mono fun e w' ⟨he, hb⟩ => ⟨none, 0, he, World.ownsRow_nil _ _ _ _, hb⟩
  · rw [hr, if_pos rfl] at hl
    exact Reach_ok f a L L.length (Lib.hid hl) (Lib.hid rfl) (Lib.hid hr) hs h
theorem Cuts_g {p : PPlan} (f : Int) (L : List Nat) (HL : Hid (cutsG p f = L)) {An Al Ad Ac : Option Addr} {cn cl cd cc : Nat} {w : World} (h : PAt w p p.proto p.cap p.k An p.nodes.length Al p.links.length Ad p.dests.length Ac p.checks.length) (hs : PSmall p) :
    Calls Try.prog 19 #[.agg #[.int .i64 p.proto, .int .i64 p.cap, .int .i64 p.k, .slice An p.nodes.length cn, .slice Al p.links.length cl, .slice Ad p.dests.length cd, .slice Ac p.checks.length cc], .int .i64 f] w (Lists L w) := by
  have hl := HL.out
  unfold cutsG at hl
  cases hr : rightB p
  · rw [hr, if_neg (by simp)] at hl
    subst hl
    exact (Cuts_no f (Lib.hid hr) hs h).mono fun e w' ⟨he, hb⟩ => ⟨none, 0, he, World.ownsRow_nil _ _ _ _, hb⟩
  · rw [hr, if_pos rfl] at hl
    exact Cuts_ok f L L.length (Lib.hid hl) (Lib.hid rfl) (Lib.hid hr) hs h
theorem Hops_g {p : PPlan} (f : Int) (a : Int) (b : Int) (v : Int) (HV : Hid (hopsG p f a b = v)) {An Al Ad Ac : Option Addr} {cn cl cd cc : Nat} {w : World} (h : PAt w p p.proto p.cap p.k An p.nodes.length Al p.links.length Ad p.dests.length Ac p.checks.length) (hs : PSmall p) :
    Calls Try.prog 17 #[.agg #[.int .i64 p.proto, .int .i64 p.cap, .int .i64 p.k, .slice An p.nodes.length cn, .slice Al p.links.length cl, .slice Ad p.dests.length cd, .slice Ac p.checks.length cc], .int .i64 f, .int .i64 a, .int .i64 b] w fun e w' => e = .returned (.int .i64 v) ∧ Below w.heap.size w w' := by
  have hv := HV.out
  unfold hopsG at hv
  cases hr : rightB p
  · rw [hr, if_neg (by simp)] at hv
    subst hv
    exact Hops_no f a b (Lib.hid hr) hs h
  · rw [hr, if_pos rfl] at hv
    exact Hops_ok f a b v (Lib.hid hv) (Lib.hid hr) hs h
theorem Other_g {p : PPlan} (link : Int) (node : Int) (v : Int) (HV : Hid (oiG p link node = v)) {An Al Ad Ac : Option Addr} {cn cl cd cc : Nat} {w : World} (h : PAt w p p.proto p.cap p.k An p.nodes.length Al p.links.length Ad p.dests.length Ac p.checks.length) (hs : PSmall p) :
    Calls Try.prog 13 #[.agg #[.int .i64 p.proto, .int .i64 p.cap, .int .i64 p.k, .slice An p.nodes.length cn, .slice Al p.links.length cl, .slice Ad p.dests.length cd, .slice Ac p.checks.length cc], .int .i64 link, .int .i64 node] w fun e w' => e = .returned (.int .i64 v) ∧ Below w.heap.size w w' := by
  have hv := HV.out
  unfold oiG at hv
  cases hr : rightB p
  · rw [hr, if_neg (by simp)] at hv
    subst hv
    exact Other_no link node (Lib.hid hr) hs h
  · rw [hr, if_pos rfl] at hv
    exact Other_ok link node v (Lib.hid hv) (Lib.hid hr) hs h
theorem aroundG_len {p : PPlan} (hs : PSmall p) (f a : Int) : (aroundG p f a).length ≤ 4096 := by
  have := hs.ll
  unfold aroundG
  split
  · have := aroundK_len p f a p.links.length; unfold aroundB; omega
  · simp
theorem reachG_len {p : PPlan} (hs : PSmall p) (f a : Int) : (reachG p f a).length ≤ 4096 := by
  have := hs.ln
  have h := rrK_len p f a p.nodes.length
  rw [rr_all] at h
  omega
theorem cutsG_len {p : PPlan} (hs : PSmall p) (f : Int) : (cutsG p f).length ≤ 4096 := by
  have := hs.ll
  unfold cutsG
  split
  · have := cutsK_len p f p.links.length; unfold cutsB; omega
  · simp
theorem Around_n {p : PPlan} (f : Int) (a : Int) (L : List Nat) (HL : Hid (aroundG p f a = L)) (n : Nat) (HN : Hid (L.length = n)) {An Al Ad Ac : Option Addr} {cn cl cd cc : Nat} {w : World} (h : PAt w p p.proto p.cap p.k An p.nodes.length Al p.links.length Ad p.dests.length Ac p.checks.length) (hs : PSmall p) :
    Calls Try.prog 11 #[.agg #[.int .i64 p.proto, .int .i64 p.cap, .int .i64 p.k, .slice An p.nodes.length cn, .slice Al p.links.length cl, .slice Ad p.dests.length cd, .slice Ac p.checks.length cc], .int .i64 f, .int .i64 a] w fun e w' => ∃ A c, e = .returned (.slice A n c) ∧ w'.ownsRow w.heap.size 3 1 (.slice A n c) n (intCells L) ∧ Below w.heap.size w w' := by
  have hn := HN.out
  subst hn
  exact Around_g f a L HL h hs
theorem refAround_n {p : PPlan} (f : Int) (a : Int) (L : List Nat) (HL : Hid (aroundG p f a = L)) (n : Nat) (HN : Hid (L.length = n)) {An Al Ad Ac : Option Addr} {cn cl cd cc : Nat} {w : World} (h : PAt w p p.proto p.cap p.k An p.nodes.length Al p.links.length Ad p.dests.length Ac p.checks.length) (hs : PSmall p) :
    Calls Try.prog 12 #[.agg #[.int .i64 p.proto, .int .i64 p.cap, .int .i64 p.k, .slice An p.nodes.length cn, .slice Al p.links.length cl, .slice Ad p.dests.length cd, .slice Ac p.checks.length cc], .int .i64 f, .int .i64 a] w fun e w' => ∃ A c, e = .returned (.slice A n c) ∧ w'.ownsRow w.heap.size 3 1 (.slice A n c) n (intCells L) ∧ Below w.heap.size w w' := by
  have hn := HN.out
  subst hn
  exact refAround_w f a L HL h hs
theorem Reach_n {p : PPlan} (f : Int) (a : Int) (L : List Nat) (HL : Hid (reachG p f a = L)) (n : Nat) (HN : Hid (L.length = n)) {An Al Ad Ac : Option Addr} {cn cl cd cc : Nat} {w : World} (h : PAt w p p.proto p.cap p.k An p.nodes.length Al p.links.length Ad p.dests.length Ac p.checks.length) (hs : PSmall p) :
    Calls Try.prog 15 #[.agg #[.int .i64 p.proto, .int .i64 p.cap, .int .i64 p.k, .slice An p.nodes.length cn, .slice Al p.links.length cl, .slice Ad p.dests.length cd, .slice Ac p.checks.length cc], .int .i64 f, .int .i64 a] w fun e w' => ∃ A c, e = .returned (.slice A n c) ∧ w'.ownsRow w.heap.size 3 1 (.slice A n c) n (intCells L) ∧ Below w.heap.size w w' := by
  have hn := HN.out
  subst hn
  exact Reach_g f a L HL h hs
theorem refReach_n {p : PPlan} (f : Int) (a : Int) (L : List Nat) (HL : Hid (reachG p f a = L)) (n : Nat) (HN : Hid (L.length = n)) {An Al Ad Ac : Option Addr} {cn cl cd cc : Nat} {w : World} (h : PAt w p p.proto p.cap p.k An p.nodes.length Al p.links.length Ad p.dests.length Ac p.checks.length) (hs : PSmall p) :
    Calls Try.prog 16 #[.agg #[.int .i64 p.proto, .int .i64 p.cap, .int .i64 p.k, .slice An p.nodes.length cn, .slice Al p.links.length cl, .slice Ad p.dests.length cd, .slice Ac p.checks.length cc], .int .i64 f, .int .i64 a] w fun e w' => ∃ A c, e = .returned (.slice A n c) ∧ w'.ownsRow w.heap.size 3 1 (.slice A n c) n (intCells L) ∧ Below w.heap.size w w' := by
  have hn := HN.out
  subst hn
  exact refReach_w f a L HL h hs
theorem Cuts_n {p : PPlan} (f : Int) (L : List Nat) (HL : Hid (cutsG p f = L)) (n : Nat) (HN : Hid (L.length = n)) {An Al Ad Ac : Option Addr} {cn cl cd cc : Nat} {w : World} (h : PAt w p p.proto p.cap p.k An p.nodes.length Al p.links.length Ad p.dests.length Ac p.checks.length) (hs : PSmall p) :
    Calls Try.prog 19 #[.agg #[.int .i64 p.proto, .int .i64 p.cap, .int .i64 p.k, .slice An p.nodes.length cn, .slice Al p.links.length cl, .slice Ad p.dests.length cd, .slice Ac p.checks.length cc], .int .i64 f] w fun e w' => ∃ A c, e = .returned (.slice A n c) ∧ w'.ownsRow w.heap.size 3 1 (.slice A n c) n (intCells L) ∧ Below w.heap.size w w' := by
  have hn := HN.out
  subst hn
  exact Cuts_g f L HL h hs
theorem refCuts_n {p : PPlan} (f : Int) (L : List Nat) (HL : Hid (cutsG p f = L)) (n : Nat) (HN : Hid (L.length = n)) {An Al Ad Ac : Option Addr} {cn cl cd cc : Nat} {w : World} (h : PAt w p p.proto p.cap p.k An p.nodes.length Al p.links.length Ad p.dests.length Ac p.checks.length) (hs : PSmall p) :
    Calls Try.prog 20 #[.agg #[.int .i64 p.proto, .int .i64 p.cap, .int .i64 p.k, .slice An p.nodes.length cn, .slice Al p.links.length cl, .slice Ad p.dests.length cd, .slice Ac p.checks.length cc], .int .i64 f] w fun e w' => ∃ A c, e = .returned (.slice A n c) ∧ w'.ownsRow w.heap.size 3 1 (.slice A n c) n (intCells L) ∧ Below w.heap.size w w' := by
  have hn := HN.out
  subst hn
  exact refCuts_w f L HL h hs
/-- A network and four places, each in its box. -/
structure GS (g : Nat) (p : PPlan) (An : Option Addr) (cn : Nat) (Al : Option Addr) (cl : Nat) (Ad : Option Addr) (cd : Nat) (Ac : Option Addr) (cc : Nat) (gx : Nat) (x0 x1 x2 x3 : Int) (w : World) : Prop where
  pat : PAt w p p.proto p.cap p.k An p.nodes.length Al p.links.length Ad p.dests.length Ac p.checks.length
  pb : Blk w g 29 #[.int .i64 p.proto, .int .i64 p.cap, .int .i64 p.k, .slice An p.nodes.length cn, .slice Al p.links.length cl, .slice Ad p.dests.length cd, .slice Ac p.checks.length cc]
  xb : Blk w gx 32 #[.int .i64 x0, .int .i64 x1, .int .i64 x2, .int .i64 x3]
section
variable {w w' : World} {g : Nat} {p : PPlan} {An : Option Addr} {cn : Nat} {Al : Option Addr} {cl : Nat} {Ad : Option Addr} {cd : Nat} {Ac : Option Addr} {cc gx : Nat} {x0 x1 x2 x3 : Int}
theorem GS.go (h : GS g p An cn Al cl Ad cd Ac cc gx x0 x1 x2 x3 w) (hb : Below w.heap.size w w') : GS g p An cn Al cl Ad cd Ac cc gx x0 x1 x2 x3 w' := ⟨h.pat.up hb, h.pb.up hb, h.xb.up hb⟩
theorem GS.cells (h : GS g p An cn Al cl Ad cd Ac cc gx x0 x1 x2 x3 w) : (w.cell? ⟨g, 0, none⟩ = some (.int .i64 p.proto) ∧ w.cell? ⟨g, 1, none⟩ = some (.int .i64 p.cap) ∧ w.cell? ⟨g, 2, none⟩ = some (.int .i64 p.k) ∧ w.cell? ⟨g, 3, none⟩ = some (.slice An p.nodes.length cn) ∧ w.cell? ⟨g, 4, none⟩ = some (.slice Al p.links.length cl) ∧ w.cell? ⟨g, 5, none⟩ = some (.slice Ad p.dests.length cd) ∧ w.cell? ⟨g, 6, none⟩ = some (.slice Ac p.checks.length cc)) ∧ w.cell? ⟨gx, 0, none⟩ = some (.int .i64 x0) ∧ w.cell? ⟨gx, 1, none⟩ = some (.int .i64 x1) ∧ w.cell? ⟨gx, 2, none⟩ = some (.int .i64 x2) ∧ w.cell? ⟨gx, 3, none⟩ = some (.int .i64 x3) :=
  ⟨box7 h.pb, h.xb.cell 0, h.xb.cell 1, h.xb.cell 2, h.xb.cell 3⟩
end
/-- Two lists that are the same. -/
theorem ints_self (L : List Nat) {n : Nat} (HN : Hid (L.length = n)) (hm : n ≤ 4096) {A1 A2 : Option Addr} {c1 c2 : Nat} {w : World} (r1 : RowAt w w.heap.size A1 (intCells L)) (r2 : RowAt w w.heap.size A2 (intCells L)) :
    Calls Try.prog 10 #[.slice A1 n c1, .slice A2 n c2] w fun e w' => e = .returned (.bool true) ∧ Below w.heap.size w w' :=
  (ints5_quiet A1 A2 c1 c2 n n L L true (Lib.hid (by simp)) HN HN (by omega) r1 r2).mono fun e w' ⟨he, n, hw⟩ => ⟨he, hw ▸ below_draws (Below.refl _ _) n⟩
set_option maxHeartbeats 16000000 in
set_option maxRecDepth 100000 in
theorem graphTells_walk (A1 : Option Addr) (c1 : Nat) (l1 : List Int) (hwf1 : ∀ v ∈ l1, InI v) (hm1 : l1.length ≤ 9223372036854775807) (hc1 : l1.length ≤ c1) (hcm1 : c1 ≤ 9223372036854775807) (i0 : Int) (hi0 : InI i0) (i1 : Int) (hi1 : InI i1) (i2 : Int) (hi2 : InI i2) (i3 : Int) (hi3 : InI i3) (w : World) (hA1 : CellsAt w w.heap.size A1 (l1.map (Value.int .i64))) :
    Calls Try.prog 3 #[.slice A1 l1.length c1, .int .i64 i0, .int .i64 i1, .int .i64 i2, .int .i64 i3] w fun e w' => e = .returned (.bool true) ∧ Below w.heap.size w w' := by
  obtain ⟨n1, hn1⟩ : ∃ n, l1.length = n := ⟨_, rfl⟩
  rw [hn1] at hm1 hc1 ⊢
  have HN1 := Lib.hid hn1
  obtain ⟨pn, hpn⟩ : ∃ p, netOf l1 = p := ⟨_, rfl⟩
  have HOKN : NetOk pn := hpn ▸ netOk l1
  have HPN := Lib.hid hpn
  obtain ⟨j0, hj0⟩ : ∃ r, pickN i0 512 = r := ⟨_, rfl⟩
  have HJ0 := Lib.hid hj0
  obtain ⟨j1, hj1⟩ : ∃ r, pickN i1 8 = r := ⟨_, rfl⟩
  have HJ1 := Lib.hid hj1
  obtain ⟨j2, hj2⟩ : ∃ r, pickN i2 8 = r := ⟨_, rfl⟩
  have HJ2 := Lib.hid hj2
  obtain ⟨j3, hj3⟩ : ∃ r, pickN i3 10 = r := ⟨_, rfl⟩
  have HJ3 := Lib.hid hj3
  clear hn1 hpn hj0 hj1 hj2 hj3
  have U := Below.refl w.heap.size w
  go_enter Try.func3, Try.ntmps3
  go_wp2_with (first
    | (go_at_call 6; (with_reducible refine (awake5_any _).mono ?_); rintro e w1 ⟨rfl, hb1⟩; replace hA1 := hA1.upw hb1; replace U := below_on U hb1)
    | (go_at_call 7; refine (Net_at pn l1 HPN A1 n1 c1 HN1.out hwf1 hm1 hc1 hcm1 _ hA1).mono ?_; rintro e w2 ⟨An1, cn1, Al1, cl1, Ad1, cd1, Ac1, cc1, rfl, ho2, hb2⟩; have hp2 := ho2.at_; replace hA1 := hA1.upw hb2; replace U := below_on U hb2)
    | (go_at_call 8; refine (Wild_any l1 A1 n1 c1 HN1.out hwf1 hm1 hc1 hcm1 _ hA1).mono ?_; rintro e w3 hw3; obtain ⟨q, An2, cn2, Al2, cl2, Ad2, cd2, Ac2, cc2, hfq, rfl, hpq, hb3⟩ := wild_forms hw3; replace U := below_on U hb3; have hp3 := hp2.up hb3))
  clear hw3 ho2 hp2 hb1 hb2 hb3 hA1
  obtain ⟨ga, hga⟩ : ∃ g, w3.heap.size = g := ⟨_, rfl⟩
  obtain ⟨W, hW⟩ : ∃ W, w3.alloc (.cells #[.int .i64 pn.proto, .int .i64 pn.cap, .int .i64 pn.k, .slice An1 pn.nodes.length cn1, .slice Al1 pn.links.length cl1, .slice Ad1 pn.dests.length cd1, .slice Ac1 pn.checks.length cc1, .int .i64 q.proto, .int .i64 q.cap, .int .i64 q.k, .slice An2 q.nodes.length cn2, .slice Al2 q.links.length cl2, .slice Ad2 q.dests.length cd2, .slice Ac2 q.checks.length cc2] 29) = W := ⟨_, rfl⟩
  have KA := Blk.new w3 29 #[.int .i64 pn.proto, .int .i64 pn.cap, .int .i64 pn.k, .slice An1 pn.nodes.length cn1, .slice Al1 pn.links.length cl1, .slice Ad1 pn.dests.length cd1, .slice Ac1 pn.checks.length cc1, .int .i64 q.proto, .int .i64 q.cap, .int .i64 q.k, .slice An2 q.nodes.length cn2, .slice Al2 q.links.length cl2, .slice Ad2 q.dests.length cd2, .slice Ac2 q.checks.length cc2]
  rw [hga] at KA ⊢
  rw [hW] at KA ⊢
  have hbW : Below w3.heap.size w3 W := hW ▸ below_new w3 _
  replace U := below_on U hbW
  have hAll : ∀ t : Nat, t < 2 → ∃ p An cn Al cl Ad cd Ac cc, PSmall p ∧ PAt W p p.proto p.cap p.k An p.nodes.length Al p.links.length Ad p.dests.length Ac p.checks.length ∧ (W.cell? ⟨ga, t * 7, none⟩ = some (.int .i64 p.proto) ∧ W.cell? ⟨ga, t * 7 + 1, none⟩ = some (.int .i64 p.cap) ∧ W.cell? ⟨ga, t * 7 + 2, none⟩ = some (.int .i64 p.k) ∧ W.cell? ⟨ga, t * 7 + 3, none⟩ = some (.slice An p.nodes.length cn) ∧ W.cell? ⟨ga, t * 7 + 4, none⟩ = some (.slice Al p.links.length cl) ∧ W.cell? ⟨ga, t * 7 + 5, none⟩ = some (.slice Ad p.dests.length cd) ∧ W.cell? ⟨ga, t * 7 + 6, none⟩ = some (.slice Ac p.checks.length cc)) := by
    intro t ht
    rcases (show t = 0 ∨ t = 1 by omega) with rfl | rfl
    · exact ⟨pn, An1, cn1, Al1, cl1, Ad1, cd1, Ac1, cc1, HOKN.small, hp3.up hbW, KA.cell 0, KA.cell 1, KA.cell 2, KA.cell 3, KA.cell 4, KA.cell 5, KA.cell 6⟩
    · exact ⟨q, An2, cn2, Al2, cl2, Ad2, cd2, Ac2, cc2, hfq.small, hpq.up hbW, KA.cell 7, KA.cell 8, KA.cell 9, KA.cell 10, KA.cell 11, KA.cell 12, KA.cell 13⟩
  have hgl := KA.lt
  clear KA hW hga hp3 hpq hbW HOKN hfq
  go_loopw [23] (fun s23 wr => ∃ t : Nat, t ≤ 2 ∧ s23 = .int .i64 (t : Nat) ∧ Below W.heap.size W wr) (fun s23 _ => 2 - (intOf s23).toNat)
  case atStart => exact ⟨0, by omega, rfl, Below.refl _ _⟩
  case round =>
      obtain ⟨t, ht, rfl, hbr⟩ := hrel
      by_cases hlt : t < 2
      · obtain ⟨p, An, cn, Al, cl, Ad, cd, Ac, cc, hs, hp, m0, m1, m2, m3, m4, m5, m6⟩ := hAll t hlt
        replace hp := hp.up hbr
        replace m0 := (hbr.cell hgl).trans m0
        replace m1 := (hbr.cell hgl).trans m1
        replace m2 := (hbr.cell hgl).trans m2
        replace m3 := (hbr.cell hgl).trans m3
        replace m4 := (hbr.cell hgl).trans m4
        replace m5 := (hbr.cell hgl).trans m5
        replace m6 := (hbr.cell hgl).trans m6
        have t0 : (0 : Int) ≤ (t : Int) := by omega
        have t1 : (t : Int) < 2 := by omega
        have hbn := below_new wr (.cells #[.int .i64 p.proto, .int .i64 p.cap, .int .i64 p.k, .slice An p.nodes.length cn, .slice Al p.links.length cl, .slice Ad p.dests.length cd, .slice Ac p.checks.length cc] 29)
        have K1 := Blk.new wr 29 #[.int .i64 p.proto, .int .i64 p.cap, .int .i64 p.k, .slice An p.nodes.length cn, .slice Al p.links.length cl, .slice Ad p.dests.length cd, .slice Ac p.checks.length cc]
        have hp1 := hp.up hbn
        clear hp
        go_wp2_with (first
          | (go_at_call 9; (with_reducible refine (pick5_is i0 512 j0 hi0 (by omega) (by omega) HJ0 _).mono ?_); rintro e wp0 ⟨rfl, rfl⟩)
          | (go_at_call 9; (with_reducible refine (pick5_is i1 8 j1 hi1 (by omega) (by omega) HJ1 _).mono ?_); rintro e wp1 ⟨rfl, rfl⟩)
          | (go_at_call 9; (with_reducible refine (pick5_is i2 8 j2 hi2 (by omega) (by omega) HJ2 _).mono ?_); rintro e wp2 ⟨rfl, rfl⟩)
          | (go_at_call 9; (with_reducible refine (pick5_is i3 10 j3 hi3 (by omega) (by omega) HJ3 _).mono ?_); rintro e wp3 ⟨rfl, rfl⟩))
        obtain ⟨gp, hgp⟩ : ∃ g, wr.heap.size = g := ⟨_, rfl⟩
        obtain ⟨V, hV⟩ : ∃ V, wr.alloc (.cells #[.int .i64 p.proto, .int .i64 p.cap, .int .i64 p.k, .slice An p.nodes.length cn, .slice Al p.links.length cl, .slice Ad p.dests.length cd, .slice Ac p.checks.length cc] 29) = V := ⟨_, rfl⟩
        obtain ⟨gy, hgy⟩ : ∃ g, wr.heap.size + 1 = g := ⟨_, rfl⟩
        have hVs : V.heap.size = gy := by rw [← hV, ← hgy]; first | rfl | simp [World.alloc] | simp [go_sem]
        rw [hV] at hp1 K1
        rw [hgy]
        rw [hgp] at K1
        rw [hV, hgp]
        obtain ⟨Z, hZ⟩ : ∃ Z, V.alloc (.cells #[.int .i64 i0, .int .i64 i1, .int .i64 i2, .int .i64 i3, .int .i64 j0, .int .i64 j1, .int .i64 j2, .int .i64 j3] 32) = Z := ⟨_, rfl⟩
        have KX := Blk.new V 32 #[.int .i64 i0, .int .i64 i1, .int .i64 i2, .int .i64 i3, .int .i64 j0, .int .i64 j1, .int .i64 j2, .int .i64 j3]
        rw [hVs] at KX
        rw [hZ] at KX ⊢
        have hbZ : Below V.heap.size V Z := hZ ▸ below_new V _
        have pZ := hp1.up hbZ
        have KZ := K1.up hbZ
        have hX : ∀ u : Nat, u < 2 → ∃ x0 x1 x2 x3, Z.cell? ⟨gy, u * 4, none⟩ = some (.int .i64 x0) ∧ Z.cell? ⟨gy, u * 4 + 1, none⟩ = some (.int .i64 x1) ∧ Z.cell? ⟨gy, u * 4 + 2, none⟩ = some (.int .i64 x2) ∧ Z.cell? ⟨gy, u * 4 + 3, none⟩ = some (.int .i64 x3) := by
          intro u hu
          rcases (show u = 0 ∨ u = 1 by omega) with rfl | rfl
          · exact ⟨_, _, _, _, KX.cell 0, KX.cell 1, KX.cell 2, KX.cell 3⟩
          · exact ⟨_, _, _, _, KX.cell 4, KX.cell 5, KX.cell 6, KX.cell 7⟩
        have hgyl := KX.lt
        have hWZ : Below W.heap.size W Z := by rw [← hZ, ← hV]; exact below_on (below_on hbr (below_new wr _)) (below_new _ _)
        clear KX hZ hgy hVs hV hgp hbZ hp1 K1 hbn m0 m1 m2 m3 m4 m5 m6
        go_loopw [43] (fun s43 wr => ∃ u : Nat, u ≤ 2 ∧ s43 = .int .i64 (u : Nat) ∧ Below Z.heap.size Z wr) (fun s43 _ => 2 - (intOf s43).toNat)
        case atStart => exact ⟨0, by omega, rfl, Below.refl _ _⟩
        case round =>
          obtain ⟨u, hu, rfl, hbu⟩ := hrel
          by_cases hlu : u < 2
          · obtain ⟨x0, x1, x2, x3, hx0, hx1, hx2, hx3⟩ := hX u hlu
            replace hx0 := (hbu.cell hgyl).trans hx0
            replace hx1 := (hbu.cell hgyl).trans hx1
            replace hx2 := (hbu.cell hgyl).trans hx2
            replace hx3 := (hbu.cell hgyl).trans hx3
            have u0 : (0 : Int) ≤ (u : Int) := by omega
            have u1 : (u : Int) < 2 := by omega
            have hby := below_new wr (.cells #[.int .i64 x0, .int .i64 x1, .int .i64 x2, .int .i64 x3] 32)
            have E0 : GS gp p An cn Al cl Ad cd Ac cc wr.heap.size x0 x1 x2 x3 (wr.alloc (.cells #[.int .i64 x0, .int .i64 x1, .int .i64 x2, .int .i64 x3] 32)) := ⟨(pZ.up hbu).up hby, (KZ.up hbu).up hby, Blk.new _ _ _⟩
            have Z0 := below_on hbu hby
            obtain ⟨LA, hLA⟩ : ∃ r, aroundG p x0 x1 = r := ⟨_, rfl⟩
            have HLA := Lib.hid hLA
            obtain ⟨vo, hvo⟩ : ∃ r, oiG p x3 x1 = r := ⟨_, rfl⟩
            have Hvo := Lib.hid hvo
            obtain ⟨LR, hLR⟩ : ∃ r, reachG p x0 x1 = r := ⟨_, rfl⟩
            have HLR := Lib.hid hLR
            obtain ⟨vh, hvh⟩ : ∃ r, hopsG p x0 x1 x2 = r := ⟨_, rfl⟩
            have Hvh := Lib.hid hvh
            obtain ⟨LC, hLC⟩ : ∃ r, cutsG p x0 = r := ⟨_, rfl⟩
            have HLC := Lib.hid hLC
            have kA : LA.length ≤ 4096 := hLA ▸ aroundG_len hs x0 x1
            have kR : LR.length ≤ 4096 := hLR ▸ reachG_len hs x0 x1
            have kC : LC.length ≤ 4096 := hLC ▸ cutsG_len hs x0
            obtain ⟨nA, hnA⟩ : ∃ n, LA.length = n := ⟨_, rfl⟩
            obtain ⟨nR, hnR⟩ : ∃ n, LR.length = n := ⟨_, rfl⟩
            obtain ⟨nC, hnC⟩ : ∃ n, LC.length = n := ⟨_, rfl⟩
            have HnA := Lib.hid hnA
            have HnR := Lib.hid hnR
            have HnC := Lib.hid hnC
            rw [hnA] at kA
            rw [hnR] at kR
            rw [hnC] at kC
            have VV : (vo != vo) = false := by simp
            have VW : (vh != vh) = false := by simp
            clear hLA hvo hLR hvh hLC hnA hnR hnC
            obtain ⟨⟨a0, a1, a2, a3, a4, a5, a6⟩, b0, b1, b2, b3⟩ := E0.cells
            go_upto_region 8 with (fail)
            obtain ⟨gx, hgx⟩ : ∃ g, wr.heap.size = g := ⟨_, rfl⟩
            obtain ⟨Y0, hY0⟩ : ∃ V, wr.alloc (.cells #[.int .i64 x0, .int .i64 x1, .int .i64 x2, .int .i64 x3] 32) = V := ⟨_, rfl⟩
            rw [hY0] at E0 Z0 ⊢
            rw [hgx] at E0 ⊢
            clear hY0 hgx hby a0 a1 a2 a3 a4 a5 a6 b0 b1 b2 b3 hx0 hx1 hx2 hx3
            obtain ⟨⟨a0, a1, a2, a3, a4, a5, a6⟩, b0, b1, b2, b3⟩ := E0.cells
            replace E0 := E0.go (Below.refl _ _).drew
            replace Z0 := Z0.drew
            simp only [List.append_eq, List.cons_append, List.nil_append]
            go_region_held3 (fun w' => (w'.cell? ⟨gp, 0, none⟩ = some (.int .i64 p.proto) ∧ w'.cell? ⟨gp, 1, none⟩ = some (.int .i64 p.cap) ∧ w'.cell? ⟨gp, 2, none⟩ = some (.int .i64 p.k) ∧ w'.cell? ⟨gp, 3, none⟩ = some (.slice An p.nodes.length cn) ∧ w'.cell? ⟨gp, 4, none⟩ = some (.slice Al p.links.length cl) ∧ w'.cell? ⟨gp, 5, none⟩ = some (.slice Ad p.dests.length cd) ∧ w'.cell? ⟨gp, 6, none⟩ = some (.slice Ac p.checks.length cc)) ∧ w'.cell? ⟨gx, 0, none⟩ = some (.int .i64 x0) ∧ w'.cell? ⟨gx, 1, none⟩ = some (.int .i64 x1) ∧ w'.cell? ⟨gx, 2, none⟩ = some (.int .i64 x2) ∧ w'.cell? ⟨gx, 3, none⟩ = some (.int .i64 x3)) (go_keep) (first
              | (go_at_call 11; (with_reducible refine (Around_n x0 x1 LA HLA nA HnA E0.pat hs).mono ?_); rintro e y1 ⟨A1x, c1x, rfl, o1, hy1⟩; have E1 := E0.go hy1; have Z1 := below_on Z0 hy1; obtain ⟨⟨a0, a1, a2, a3, a4, a5, a6⟩, b0, b1, b2, b3⟩ := E1.cells)
              | (go_at_call 12; (with_reducible refine (refAround_n x0 x1 LA HLA nA HnA E1.pat hs).mono ?_); rintro e y2 ⟨A2x, c2x, rfl, o2, hy2⟩; have E2 := E1.go hy2; have Z2 := below_on Z1 hy2; obtain ⟨⟨a0, a1, a2, a3, a4, a5, a6⟩, b0, b1, b2, b3⟩ := E2.cells; have ra1 := RowAt.of_own (own_below o1 hy2); have ra2 := RowAt.of_own o2)
              | (go_at_call 10; (with_reducible refine (ints_self LA HnA kA ra1 ra2).mono ?_); rintro e y3 ⟨rfl, hy3⟩; have E3 := E2.go hy3; have Z3 := below_on Z2 hy3; obtain ⟨⟨a0, a1, a2, a3, a4, a5, a6⟩, b0, b1, b2, b3⟩ := E3.cells)
              | (go_at_call 13; (with_reducible refine (Other_g x3 x1 vo Hvo E3.pat hs).mono ?_); rintro e y4 ⟨rfl, hy4⟩; have E4 := E3.go hy4; have Z4 := below_on Z3 hy4; obtain ⟨⟨a0, a1, a2, a3, a4, a5, a6⟩, b0, b1, b2, b3⟩ := E4.cells)
              | (go_at_call 14; (with_reducible refine (refOther5_g x3 x1 vo Hvo E4.pat hs).mono ?_); rintro e y5 ⟨rfl, hy5⟩; have E5 := E4.go hy5; have Z5 := below_on Z4 hy5; obtain ⟨⟨a0, a1, a2, a3, a4, a5, a6⟩, b0, b1, b2, b3⟩ := E5.cells)
              | (go_at_call 15; (with_reducible refine (Reach_n x0 x1 LR HLR nR HnR E5.pat hs).mono ?_); rintro e y6 ⟨A3x, c3x, rfl, o3, hy6⟩; have E6 := E5.go hy6; have Z6 := below_on Z5 hy6; obtain ⟨⟨a0, a1, a2, a3, a4, a5, a6⟩, b0, b1, b2, b3⟩ := E6.cells)
              | (go_at_call 16; (with_reducible refine (refReach_n x0 x1 LR HLR nR HnR E6.pat hs).mono ?_); rintro e y7 ⟨A4x, c4x, rfl, o4, hy7⟩; have E7 := E6.go hy7; have Z7 := below_on Z6 hy7; obtain ⟨⟨a0, a1, a2, a3, a4, a5, a6⟩, b0, b1, b2, b3⟩ := E7.cells; have rb1 := RowAt.of_own (own_below o3 hy7); have rb2 := RowAt.of_own o4)
              | (go_at_call 10; (with_reducible refine (ints_self LR HnR kR rb1 rb2).mono ?_); rintro e y8 ⟨rfl, hy8⟩; have E8 := E7.go hy8; have Z8 := below_on Z7 hy8; obtain ⟨⟨a0, a1, a2, a3, a4, a5, a6⟩, b0, b1, b2, b3⟩ := E8.cells)
              | (go_at_call 17; (with_reducible refine (Hops_g x0 x1 x2 vh Hvh E8.pat hs).mono ?_); rintro e y9 ⟨rfl, hy9⟩; have E9 := E8.go hy9; have Z9 := below_on Z8 hy9; obtain ⟨⟨a0, a1, a2, a3, a4, a5, a6⟩, b0, b1, b2, b3⟩ := E9.cells)
              | (go_at_call 18; (with_reducible refine (refHops_w x0 x1 x2 vh Hvh E9.pat hs).mono ?_); rintro e y10 ⟨rfl, hy10⟩; have E10 := E9.go hy10; have Z10 := below_on Z9 hy10; obtain ⟨⟨a0, a1, a2, a3, a4, a5, a6⟩, b0, b1, b2, b3⟩ := E10.cells)
              | (go_at_call 19; (with_reducible refine (Cuts_n x0 LC HLC nC HnC E10.pat hs).mono ?_); rintro e y11 ⟨A5x, c5x, rfl, o5, hy11⟩; have E11 := E10.go hy11; have Z11 := below_on Z10 hy11; obtain ⟨⟨a0, a1, a2, a3, a4, a5, a6⟩, b0, b1, b2, b3⟩ := E11.cells)
              | (go_at_call 20; (with_reducible refine (refCuts_n x0 LC HLC nC HnC E11.pat hs).mono ?_); rintro e y12 ⟨A6x, c6x, rfl, o6, hy12⟩; have E12 := E11.go hy12; have Z12 := below_on Z11 hy12; obtain ⟨⟨a0, a1, a2, a3, a4, a5, a6⟩, b0, b1, b2, b3⟩ := E12.cells; have rc1 := RowAt.of_own (own_below o5 hy12); have rc2 := RowAt.of_own o6)
              | (go_at_call 10; (with_reducible refine (ints_self LC HnC kC rc1 rc2).mono ?_); rintro e y13 ⟨rfl, hy13⟩; have E13 := E12.go hy13; have Z13 := below_on Z12 hy13; obtain ⟨⟨a0, a1, a2, a3, a4, a5, a6⟩, b0, b1, b2, b3⟩ := E13.cells))
            go_step
            go_wp2_with fail
            go_roundw
            case rel => exact ⟨u + 1, by omega, by go_num, Z13⟩
            case measure => simp [intOf]; omega
          · obtain rfl : u = 2 := by omega
            go_wp2_with fail
            go_roundw
            case rel => exact ⟨t + 1, by omega, by go_num, below_on hWZ hbu⟩
            case measure => simp [intOf]; omega
      · obtain rfl : t = 2 := by omega
        go_wp2_with fail
        go_ret
        exact ⟨rfl, below_on U hbr⟩
end Go.Proofs.Ytlfdpfkimggeoaa
