/-
  Wild: any list of raw numbers.
-/
import Derived.Test.YtdmilbfdiebjgaaDoorPlXg
import Derived.Maps.AppendAt
namespace Go.Proofs.YtdmilbfdiebjgaaDoor
open Go.RowKit
set_option linter.unusedVariables false
set_option linter.unusedSimpArgs false

set_option maxHeartbeats 8000000 in
set_option maxRecDepth 100000 in
theorem Wild_any (l : List Int) (A : Option Addr) (n c : Nat) (hl : l.length = n) (hwf : ∀ v ∈ l, InI v) (hm : n ≤ 9223372036854775807) (hc : n ≤ c) (hcm : c ≤ 9223372036854775807) (w : World) (hA : CellsAt w w.heap.size A (l.map (Value.int .i64))) :
    Calls Tryd.prog 5 #[.slice A n c] w (WildAs w) := by
  obtain ⟨p, hp⟩ : ∃ p, netOf l = p := ⟨_, rfl⟩
  have HNK : NetOk p := hp ▸ netOk l
  have HP := Lib.hid hp
  have hok := src_ok l hwf
  have hA2 := hA.take 200
  have hlen : (l.take 200).length = min n 200 := by rw [List.length_take, hl]; omega
  have hbz := below_new w (.cells #[.int .i64 0, .int .i64 0, .int .i64 0, .slice none 0 0, .slice none 0 0, .slice none 0 0, .slice none 0 0] 29)
  have hAz := hA.upw hbz
  have hr0 := Blk.new w 29 #[.int .i64 0, .int .i64 0, .int .i64 0, .slice none 0 0, .slice none 0 0, .slice none 0 0, .slice none 0 0]
  have HLEN := Lib.hid hlen
  have HL := Lib.hid hl
  clear hp hlen hA
  go_enter Tryd.func5, Tryd.ntmps5
  go_upto_region 2 with (go_at_call 6; refine (Net_at p l HP A n c HL.out hwf hm hc hcm _ hAz).mono ?_; rintro e w2 ⟨An, cn, Al, cl, Ad, cd, Ac, cc, rfl, ho, hb2⟩)
  have hz2 := hb2.size
  rw [World.size_alloc] at hz2
  have hbw : Below w.heap.size w w2 := hbz.trans (hb2.mono hbz.size)
  have hO : POwn w.heap.size p (.slice An p.nodes.length cn) (.slice Al p.links.length cl) (.slice Ad p.dests.length cd) (.slice Ac p.checks.length cc) (w2.alloc (.cells #[.int .i64 p.proto, .int .i64 p.cap, .int .i64 p.k, .slice An p.nodes.length cn, .slice Al p.links.length cl, .slice Ad p.dests.length cd, .slice Ac p.checks.length cc] 29)) :=
    ⟨own_alloc (own_base ho.nodes hbz.size) _, own_alloc (own_base ho.links hbz.size) _, (by obtain ⟨hs, e1, e2, e3⟩ := ho.dests; exact ⟨hs, e1, own_alloc (own_base e2 hbz.size) _, fun i d q h1 h2 => own_alloc (own_base (e3 i d q h1 h2) hbz.size) _⟩), own_alloc (own_base ho.checks hbz.size) _⟩
  have hbk := Blk.new w2 29 #[.int .i64 p.proto, .int .i64 p.cap, .int .i64 p.k, .slice An p.nodes.length cn, .slice Al p.links.length cl, .slice Ad p.dests.length cd, .slice Ac p.checks.length cc]
  have hres := (hr0.up hb2).alloc (.cells #[.int .i64 p.proto, .int .i64 p.cap, .int .i64 p.k, .slice An p.nodes.length cn, .slice Al p.links.length cl, .slice Ad p.dests.length cd, .slice Ac p.checks.length cc] 29)
  have hpb : w.heap.size < w2.heap.size := by omega
  have hbW : Below w.heap.size w (w2.alloc (.cells #[.int .i64 p.proto, .int .i64 p.cap, .int .i64 p.k, .slice An p.nodes.length cn, .slice Al p.links.length cl, .slice Ad p.dests.length cd, .slice Ac p.checks.length cc] 29)) := hbw.trans ((below_new w2 (.cells #[.int .i64 p.proto, .int .i64 p.cap, .int .i64 p.k, .slice An p.nodes.length cn, .slice Al p.links.length cl, .slice Ad p.dests.length cd, .slice Ac p.checks.length cc] 29)).mono hbw.size)
  clear ho hb2 hz2 hbw hr0 hbz hAz
  by_cases hbig : 200 < n
  · have hb1 : (200 : Int) < (n : Int) := by omega
    repeat (first
      | exact wild_body hO hbk hres hpb hbW HNK (l.take 200) hok A 200 c (Lib.hid (by rw [HLEN.out]; omega)) (by omega) hA2 _ _ _ _ _ _ _ _ _ _ _ _ _ _ _ _ _ _ _ _ _ _ _ _ _ _ _ _ _ _ _ _ _ _ _ _ _ _ _ _ _ _ _ _ _ _ _ _ _ _ _ _ _ _ _ _ _ _ _ _ _ _ _ _ _ _ _ _ _ _ _ _ _ _ _ _ _ _ _ _ _ _ _ _ _ _ _ _ _ _ _ _ _ _ _ _ _ _ _ _ _ _ _ _ _ _ _ _ _ _ _ _ _ _ _ _ _ _ _ _ _ _ _ _ _ _ _ _ _ _ _ _ _ _ _ _ _ _ _ _ _ _ _ _ _ _ _ _ _ _ _ _ _
      | go_values | go_skip | go_guarded | go_step | go_upon)
    done
  · have hb1 : ¬ (200 : Int) < (n : Int) := by omega
    repeat (first
      | exact wild_body hO hbk hres hpb hbW HNK (l.take 200) hok A n c (Lib.hid (by rw [HLEN.out]; omega)) hc hA2 _ _ _ _ _ _ _ _ _ _ _ _ _ _ _ _ _ _ _ _ _ _ _ _ _ _ _ _ _ _ _ _ _ _ _ _ _ _ _ _ _ _ _ _ _ _ _ _ _ _ _ _ _ _ _ _ _ _ _ _ _ _ _ _ _ _ _ _ _ _ _ _ _ _ _ _ _ _ _ _ _ _ _ _ _ _ _ _ _ _ _ _ _ _ _ _ _ _ _ _ _ _ _ _ _ _ _ _ _ _ _ _ _ _ _ _ _ _ _ _ _ _ _ _ _ _ _ _ _ _ _ _ _ _ _ _ _ _ _ _ _ _ _ _ _ _ _ _ _ _ _ _ _
      | go_values | go_skip | go_guarded | go_step | go_upon)
    done
end Go.Proofs.YtdmilbfdiebjgaaDoor
