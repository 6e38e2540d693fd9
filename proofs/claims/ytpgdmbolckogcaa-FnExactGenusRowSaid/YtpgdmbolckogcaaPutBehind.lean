/-
  The walk of putBehind: a dart is laid behind another.
-/
import Derived.Test.YtpgdmbolckogcaaBase
import Derived.Test.YtpgdmbolckogcaaSlice
import Derived.Test.YtpgdmbolckogcaaInts
import Derived.Test.YtpgdmbolckogcaaGrid
import Derived.Test.YtpgdmbolckogcaaGridRows
import Derived.Test.YtpgdmbolckogcaaOwn
import Derived.Test.YtpgdmbolckogcaaAppend
import Derived.Test.YtpgdmbolckogcaaClass
import Derived.Test.YtpgdmbolckogcaaLab
import Derived.Test.YtpgdmbolckogcaaMap
import Derived.Test.YtpgdmbolckogcaaMapA
import Derived.Test.YtpgdmbolckogcaaMapB
import Derived.Test.YtpgdmbolckogcaaMapC
import Derived.StillTailTactics
import Derived.Deep.QuietTactic
import Derived.BigQuiet
namespace Go.Proofs.Ytpgdmbolckogcaa
open Go.RowKit

set_option maxRecDepth 10000 in
set_option maxHeartbeats 2000000 in
theorem impl_putBehind (p lo n : Nat) (f : Nat → Nat) (d b : Nat) (zd zb : Int) (hzd : zd = ((d : Nat) : Int)) (hzb : zb = ((b : Nat) : Int)) (w : World) (h : MapAt w lo p f n) (hlo : lo ≤ w.heap.size) (hd : d < n) (hb : b < n) (hn : n ≤ 1000) :
    Calls Try.prog 47 #[.pointer (some ⟨p, 0, none⟩), .int .i64 zd, .int .i64 zb] w fun e w' => e = .returned (.tuple #[]) ∧ MapAt w' lo p (Mp.behind f d b) n ∧ Below lo w w' := by
  subst hzd; subst hzb
  obtain ⟨g, cap, hcell, _, hcap, hcm, hpg, hlop, hp, hlog, hg, hblk, hrow⟩ := h.open
  have hrb := ownRow_cell hrow hb
  have hrd := ownRow_cell hrow hd
  have hfz := hrow.frozenAt d
  have m1 : MapAt (w.setCell ⟨g, d, none⟩ (.int .i64 ((f b : Nat) : Int))) lo p (Mp.upd f d (f b)) n := MapAt.put (w := w) hblk hrow hlop hcap hcm (f b) hd
  have b1 : Below lo w (w.setCell ⟨g, d, none⟩ (.int .i64 ((f b : Nat) : Int))) := (Below.refl lo w).setCell hlog _
  have hm := Lib.hid m1
  obtain ⟨g', cap', hcell1, _, hcap1, hcm1, hpg1, hlop1, hp1, hlog1, hg1, hblk1, hrow1⟩ := m1.open
  have heq : g' = g ∧ cap' = cap := by
    have e1 := hblk1
    have e2 : Blk (w.setCell ⟨g, d, none⟩ (.int .i64 ((f b : Nat) : Int))) p 45 #[.slice (some ⟨g, 0, none⟩) n cap] := hblk.far hpg _
    unfold Blk at e1 e2
    rw [e1] at e2
    injection e2 with e2; injection e2 with e2 _ _
    simpa using e2
  obtain ⟨rfl, rfl⟩ := heq
  have hrb1 := ownRow_cell hrow1 hb
  have hfz1 := hrow1.frozenAt b
  have m2 := MapAt.put hblk1 hrow1 hlop1 hcap1 hcm1 d hb
  have b2 := b1.setCell (p := ⟨g', b, none⟩) hlog (.int .i64 ((d : Nat) : Int))
  have h0d : (0 : Int) ≤ (d : Int) := by omega
  have h1d : (d : Int) < (n : Int) := by omega
  have h0b : (0 : Int) ≤ (b : Int) := by omega
  have h1b : (b : Int) < (n : Int) := by omega
  have M2 := Lib.hid m2; have B2 := Lib.hid b2
  clear m2 b2 m1 b1 hm hblk1 hrow1 hblk hrow h
  generalize Mp.upd f d (f b) b = z1 at hrb1
  have hM : Mp.upd (Mp.upd f d (f b)) b d = Mp.behind f d b := rfl
  rw [hM] at M2
  clear hM
  generalize Mp.behind f d b = ff at *
  generalize f b = fb at *
  generalize f d = fd at *
  go_enter Try.func47, Try.ntmps47
  go_wp2
  go_still_tail 13, (by kernel_rfl)
  change wpList _ _ _ _ _ w.drew
  go_wp2
  exact bodyPost_end (v := .tuple #[]) (by first | kernel_rfl | simp [results, Try.f47]) rfl ⟨rfl, M2.out, below_drewN B2.out 1⟩
end Go.Proofs.Ytpgdmbolckogcaa
