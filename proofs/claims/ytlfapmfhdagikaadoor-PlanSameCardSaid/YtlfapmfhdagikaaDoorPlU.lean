/-
  A network of raw numbers may be; it is small.
-/
import Derived.Test.YtlfapmfhdagikaaDoorPlR
namespace Go.Proofs.YtlfapmfhdagikaaDoor

theorem nm_name : ∀ i, i < 7 → nameB (nmG i).data.toList = true ∧ (nmG i).size ≤ 4 ∧ ∀ j, j < i → nmG j ≠ nmG i := by decide +kernel
theorem dn_name : ∀ i, i < 2 → nameB (dnG i).data.toList = true ∧ (dnG i).size ≤ 4 ∧ (∀ j, j < i → dnG j ≠ dnG i) ∧ ∀ j, j < 7 → nmG j ≠ dnG i := by decide +kernel

theorem nodesOf_len (l : List Int) : (nodesOf l).1.length = nG l := nodesG_len _ _
theorem nodesOf_at (l : List Int) {i : Nat} {x : PNode} (h : (nodesOf l).1[i]? = some x) : i < nG l ∧ x.name = nmG i ∧ 1 ≤ x.num ∧ x.num ≤ 10 + i := nodesG_at _ _ i x h
theorem node_ix (l : List Int) (i : Nat) (hi : i < nG l) : ixB (nameIs (nmG i)) (nodesOf l).1 = i := by
  have h7 := nG_in l
  obtain ⟨x, hx⟩ : ∃ x, (nodesOf l).1[i]? = some x := ⟨_, List.getElem?_eq_getElem (by rw [nodesOf_len]; exact hi)⟩
  obtain ⟨_, h2, _⟩ := nodesOf_at l hx
  refine ixB_eq _ _ i x hx (by unfold nameIs; rw [h2]; simp) fun j y hj hy => ?_
  obtain ⟨_, g2, _⟩ := nodesOf_at l hy
  unfold nameIs
  rw [g2, decide_eq_false ((nm_name i (by omega)).2.2 j hj)]
theorem node_no (l : List Int) (j : Nat) (hj : j < 2) : ixB (nameIs (dnG j)) (nodesOf l).1 = -1 := by
  have h7 := nG_in l
  refine ixB_none _ _ fun k y hy => ?_
  obtain ⟨g1, g2, _⟩ := nodesOf_at l hy
  unfold nameIs
  rw [g2, decide_eq_false ((dn_name j hj).2.2.2 k (by omega))]
theorem nodesOf_ok (l : List Int) : nodesB (nodesOf l).1 = true := by
  have h7 := nG_in l
  unfold nodesB
  rw [nodesOf_len, Bool.and_eq_true]
  refine ⟨by unfold withinB; simp; omega, (allF_iff _ _ _).2 fun k x hx => ?_⟩
  obtain ⟨h1, h2, h3, h4⟩ := nodesOf_at l hx
  unfold nodeOk
  rw [Nat.zero_add, h2, node_ix l k h1, (nm_name k (by omega)).1]
  unfold withinB
  simp
  omega

theorem linksOf_ok (l : List Int) : LinksOk (nG l) (linksOf l).1 ∧ (linksOf l).1.length ≤ 9 := by
  obtain ⟨h1, h2⟩ := linksG_ok (nG l) (nodesOf l).2.tail (by have := nG_in l; omega) (nx (nodesOf l).2 10)
  have := nx_lt (nodesOf l).2 10 (by omega)
  exact ⟨h1, by show (linksG (nG l) (nodesOf l).2.tail (nx (nodesOf l).2 10)).1.length ≤ 9; omega⟩
theorem linksB_ok {n : Nat} {ls : List PLink} (h : LinksOk n ls) (hl : ls.length ≤ 16) : linksB n ls = true := by
  unfold linksB
  rw [decide_eq_true hl, Bool.true_and]
  refine (allF_iff _ _ _).2 fun k x hx => ?_
  obtain ⟨⟨a, b, c, ha, hb, hc, hab, hbn, h1, h2⟩, hd⟩ := h k x hx
  have hix := ixB_eq (linkIs x.a x.b) ls k x hx ((linkIs_iff _ _ _).2 ⟨rfl, rfl⟩) hd
  unfold linkOk
  rw [Nat.zero_add, hix, ha, hb, hc]
  unfold placeB withinB
  simp
  omega

theorem destsOf_ok (l : List Int) : DestsOk (nG l) (destsOf l).1 ∧ (destsOf l).1.length = ndG l := destsG_ok _ _ (by have := nG_in l; omega) _
theorem ndG_in (l : List Int) : 1 ≤ ndG l ∧ ndG l ≤ 2 := by unfold ndG; have := nx_lt (linksOf l).2 2 (by omega); omega
theorem dest_ix (l : List Int) (i : Nat) (hi : i < ndG l) : ixB (destIs (dnG i)) (destsOf l).1 = i := by
  obtain ⟨h1, h2⟩ := destsOf_ok l
  have hd := ndG_in l
  obtain ⟨x, hx⟩ : ∃ x, (destsOf l).1[i]? = some x := ⟨_, List.getElem?_eq_getElem (by rw [h2]; exact hi)⟩
  obtain ⟨e, _⟩ := h1 i x hx
  refine ixB_eq _ _ i x hx (by unfold destIs; rw [e]; simp) fun j y hj hy => ?_
  obtain ⟨e2, _⟩ := h1 j y hy
  unfold destIs
  rw [e2, decide_eq_false ((dn_name i (by omega)).2.2.1 j hj)]
theorem dest_no (l : List Int) (j : Nat) (hj : j < nG l) : ixB (destIs (nmG j)) (destsOf l).1 = -1 := by
  obtain ⟨h1, h2⟩ := destsOf_ok l
  have hd := ndG_in l
  have hn := nG_in l
  refine ixB_none _ _ fun k y hy => ?_
  have hk := (List.getElem?_eq_some_iff.1 hy).1
  obtain ⟨e, _⟩ := h1 k y hy
  unfold destIs
  rw [e, decide_eq_false (fun e' => (dn_name k (by omega)).2.2.2 j (by omega) e'.symm)]
theorem destsB_ok (l : List Int) : destsB (nodesOf l).1 (destsOf l).1 = true := by
  obtain ⟨h1, h2⟩ := destsOf_ok l
  have hd := ndG_in l
  unfold destsB
  rw [decide_eq_true (by omega), Bool.true_and]
  refine (allF_iff _ _ _).2 fun k x hx => ?_
  have hk := (List.getElem?_eq_some_iff.1 hx).1
  obtain ⟨e, ho⟩ := h1 k x hx
  have n1 := node_no l k (by omega)
  have n2 := dest_ix l k (by omega)
  unfold destOk
  rw [Nat.zero_add, e, n1, n2, (dn_name k (by omega)).1, nodesOf_len]
  rcases ho with ⟨o, ho, hlt⟩ | ⟨o, o2, ho, hlt, hlt2⟩
  · rw [ho]
    unfold origB
    rw [origF, origF]
    unfold withinB
    simp
    omega
  · rw [ho]
    unfold origB
    rw [origF, origF, origF]
    unfold withinB
    simp
    omega

theorem checksOf_ok (l : List Int) : ChecksOk (nG l) (ndG l) (checksOf l).1 ∧ (checksOf l).1.length ≤ 6 := by
  have hd := ndG_in l
  obtain ⟨h1, h2⟩ := checksG_ok (nG l) (ndG l) (destsOf l).2.tail (by have := nG_in l; omega) (by omega) (nx (destsOf l).2 7)
  have := nx_lt (destsOf l).2 7 (by omega)
  exact ⟨h1, by show (checksG (nG l) (ndG l) (destsOf l).2.tail (nx (destsOf l).2 7)).1.length ≤ 6; omega⟩
theorem checkB_ok {ln ld : Nat} {c : PCheck} (h : ∃ i d li o : Nat, c.node = i ∧ c.dest = d ∧ c.limit = li ∧ c.other = o ∧ i < ln ∧ d < ld ∧ o < ln ∧ li < 20 ∧ ((c.kind = 1 ∧ li = 0 ∧ o = 0) ∨ (c.kind = 2 ∧ o = 0) ∨ (c.kind = 3 ∧ li = 0) ∨ (c.kind = 4 ∧ li = 0))) : checkB ln ld c = true := by
  obtain ⟨i, d, li, o, hi, hd, hl, ho, h1, h2, h3, h4, h5⟩ := h
  unfold checkB placeB withinB limB othB
  rw [hi, hd, hl, ho]
  rcases h5 with ⟨hk, rfl, rfl⟩ | ⟨hk, rfl⟩ | ⟨hk, rfl⟩ | ⟨hk, rfl⟩ <;> (rw [hk]; simp; omega)
theorem checksB_ok {ln ld : Nat} {cs : List PCheck} (h : ChecksOk ln ld cs) (hl : cs.length ≤ 16) : checksB ln ld cs = true := by
  unfold checksB
  rw [decide_eq_true hl, Bool.true_and]
  exact (allF_iff _ _ _).2 fun k x hx => checkB_ok (h x (List.mem_of_getElem? hx))

theorem protoG_ok (l : List Int) : protoB (protoG l).1.1 (protoG l).1.2 = true ∧ ∃ i : Nat, (protoG l).1.2 = i ∧ i < 100 := by
  have := nx_lt l.tail 6 (by omega)
  unfold protoG
  split
  · refine ⟨?_, _, rfl, by omega⟩
    unfold protoB withinB
    simp
    omega
  · exact ⟨rfl, 0, rfl, by omega⟩

/-- It may be. -/
theorem net_right (l : List Int) : rightB (netL l) = true := by
  obtain ⟨d1, d2⟩ := destsOf_ok l
  obtain ⟨l1, l2⟩ := linksOf_ok l
  obtain ⟨c1, c2⟩ := checksOf_ok l
  have hk := nx_lt (protoG l).2 4 (by omega)
  unfold rightB netL
  dsimp only
  rw [(protoG_ok l).1, nodesOf_ok, nodesOf_len, d2, linksB_ok l1 (by omega), destsB_ok, checksB_ok c1 (by omega)]
  unfold withinB
  simp
  omega

theorem net_small (l : List Int) : PSmall (netL l) := by
  obtain ⟨d1, d2⟩ := destsOf_ok l
  obtain ⟨l1, l2⟩ := linksOf_ok l
  obtain ⟨c1, c2⟩ := checksOf_ok l
  have hn := nG_in l
  have hd := ndG_in l
  have hl := nodesOf_len l
  refine ⟨fun n hn' => ?_, fun d hd' => ?_, ?_, ?_, ?_, ?_⟩
  · obtain ⟨k, hk⟩ := List.getElem?_of_mem hn'
    obtain ⟨e1, e2, _⟩ := nodesOf_at l hk
    rw [e2]
    exact Nat.le_trans (nm_name k (by omega)).2.1 (by omega)
  · obtain ⟨k, hk⟩ := List.getElem?_of_mem hd'
    have hk2 : k < (destsOf l).1.length := (List.getElem?_eq_some_iff.1 hk).1
    obtain ⟨e1, e2⟩ := d1 k d hk
    rw [e1]
    refine ⟨Nat.le_trans (dn_name k (by omega)).2.1 (by omega), ?_⟩
    rcases e2 with ⟨o, e, _⟩ | ⟨o, o2, e, _⟩ <;> (rw [e]; simp)
  · show (nodesOf l).1.length ≤ 4096; omega
  · show (linksOf l).1.length ≤ 4096; omega
  · show (destsOf l).1.length ≤ 4096; omega
  · show (checksOf l).1.length ≤ 4096; omega

theorem net_tiny (l : List Int) : PTiny (netL l) := by
  obtain ⟨d1, d2⟩ := destsOf_ok l
  obtain ⟨l1, l2⟩ := linksOf_ok l
  obtain ⟨c1, c2⟩ := checksOf_ok l
  have hn := nG_in l
  have hl := nodesOf_len l
  have hk := nx_lt (protoG l).2 4 (by omega)
  have hln : (netL l).nodes.length = nG l := hl
  have hld : (netL l).dests.length = ndG l := d2
  refine ⟨(protoG_ok l).2, ⟨min (nx (protoG l).2 4) (linksOf l).1.length, ?_, by omega⟩, fun n hn' => ?_, fun x hx => ?_, fun d hd a ha => ?_, fun c hc => ?_⟩
  · show min (nx (protoG l).2 4 : Int) ((linksOf l).1.length : Int) = _
    omega
  · obtain ⟨k, hk⟩ := List.getElem?_of_mem hn'
    obtain ⟨e1, _, e3, e4⟩ := nodesOf_at l hk
    exact ⟨n.num.toNat, by omega, by omega⟩
  · rw [hln]
    obtain ⟨k, hk⟩ := List.getElem?_of_mem hx
    obtain ⟨⟨a, b, c, ha, hb, hc, h1, h2, h3, h4⟩, _⟩ := l1 k x hk
    exact ⟨a, b, c, ha, hb, hc, by omega, h2, by omega⟩
  · rw [hln]
    obtain ⟨k, hk⟩ := List.getElem?_of_mem hd
    obtain ⟨_, e2⟩ := d1 k d hk
    rcases e2 with ⟨o, e, h1⟩ | ⟨o, o2, e, h1, h2⟩
    · rw [e] at ha
      simp at ha
      exact ⟨o, ha, h1⟩
    · rw [e] at ha
      simp at ha
      rcases ha with ha | ha
      · exact ⟨o, ha, by omega⟩
      · exact ⟨o2, ha, h2⟩
  · rw [hln, hld]
    obtain ⟨i, d, li, o, hi, hd, hl', ho, h1, h2, h3, h4, h5⟩ := c1 c hc
    exact ⟨by omega, i, d, li, o, hi, hd, hl', ho, h1, h2, h3, by omega⟩

end Go.Proofs.YtlfapmfhdagikaaDoor
