/-
  The walk of the program's DropEdge.
-/
import Derived.Test.YtjpafacldcnboaaBase
import Derived.Test.YtjpafacldcnboaaSlice
import Derived.Test.YtjpafacldcnboaaInts
import Derived.Test.YtjpafacldcnboaaGrid
import Derived.Test.YtjpafacldcnboaaOwn
import Derived.Test.YtjpafacldcnboaaWord
import Derived.Test.YtjpafacldcnboaaIsWord
import Derived.Test.YtjpafacldcnboaaClass
import Derived.Test.YtjpafacldcnboaaLab
import Derived.Test.YtjpafacldcnboaaTopo
import Derived.Test.YtjpafacldcnboaaMap
import Derived.Test.YtjpafacldcnboaaMapTopo
import Derived.Test.YtjpafacldcnboaaMapTopo2
import Derived.Test.YtjpafacldcnboaaMapTopo3
import Derived.Test.YtjpafacldcnboaaMapA
import Derived.Test.YtjpafacldcnboaaMapB
import Derived.Test.YtjpafacldcnboaaMapC
import Derived.Test.YtjpafacldcnboaaMapI
import Derived.Deep.QuietTactic
import Derived.BigQuiet
namespace Go.Proofs.Ytjpafacldcnboaa
open Go.RowKit

set_option maxRecDepth 10000 in
set_option maxHeartbeats 2000000 in
theorem impl_DropEdge (a : Option Addr) (c : Nat) (l : List Int) (ve : Int) (w : World) (ha : RowAt w a (intCells l)) (hl : l.length ≤ 1048576) (_ : -9223372036854775808 ≤ ve) (_ : ve ≤ 9223372036854775807) :
    Calls Try.prog 37 #[.slice a l.length c, .int .i64 ve] w fun e w' => Gives2 w (Mp.drop l ve) (decide (Mp.DropOk l ve)) e w' := by
  by_cases hM : Mp.IsM l
  · have hmap := impl_mapOf_yes a c l w ha hM
    have hn := hM.2.1
    have hn2 := hM.1
    have hev := hM.2.2.1
    have hA := fun p lo W (h : MapAt W lo p (Mp.at_ l) l.length) => impl_hasEdge p lo l.length (Mp.at_ l) ve W h (by omega)
    have hB := fun p lo W (h : MapAt W lo p (Mp.at_ l) l.length) => impl_countEdges p lo l.length (Mp.at_ l) W h (by omega)
    by_cases h1 : 0 ≤ ve ∧ ve < ((l.length / 2 : Nat) : Int)
    · rw [decide_eq_true h1] at hA
      by_cases h2 : l.length = 2
      · have hok : ¬ Mp.DropOk l ve := fun h => h.2 h2
        rw [decide_eq_false hok, show Mp.drop l ve = [] from if_neg hok]
        have hq : (((l.length / 2 : Nat) : Int) == 1) = true := by rw [h2]; rfl
        generalize ((l.length / 2 : Nat) : Int) = m at *
        have Hmap := Lib.hid hmap; have HA := Lib.hid hA; have HB := Lib.hid hB
        clear hmap hA hB ha hok hM h2 h1
        go_enter Try.func37, Try.ntmps37
        go_wp2_with fail
        refine Hmap.out.mono ?_
        rintro e w1 ⟨⟨p, rfl, hm⟩, hb⟩
        have Hb := Lib.hid hb; have Hm := Lib.hid hm
        clear hb hm
        go_wp2_with fail
        refine (HA.out _ _ _ Hm.out).mono ?_
        rintro e w2 ⟨rfl, hw⟩
        rw [hw]; clear hw
        go_wp2_with fail
        refine (HB.out _ _ _ Hm.out).mono ?_
        rintro e w2 ⟨rfl, hw⟩
        rw [hw]; clear hw
        go_wp2
        go_ret2
        exact Gives2.none Hb.out
      · have hok : Mp.DropOk l ve := ⟨⟨hM, h1⟩, h2⟩
        rw [decide_eq_true hok, Mp.drop_row hok]
        obtain ⟨x, rfl⟩ : ∃ x : Nat, ve = ((x : Nat) : Int) := ⟨ve.toNat, by have := h1.1; omega⟩
        obtain ⟨pa, pb, hpa, h3, hpb, h4⟩ := Mp.drop_pre hok
        have hE := Mp.drop_emb hok hpa h3 hpb h4
        simp only [Int.toNat_natCast] at *
        have hx : 2 * x + 1 < l.length := by have := h1.2; omega
        have hq : (((l.length / 2 : Nat) : Int) == 1) = false := beq_eq_false_iff_ne.2 (by omega)
        have hP := Mp.per_at hM.2.2.2
        have hP1 := hP.swp (show 2 * x < l.length by omega) hpa
        obtain ⟨m, hm⟩ : ∃ m, l.length = m + 2 := ⟨l.length - 2, by omega⟩
        have hw1 : IntKind.i64.wrap (2 * (x : Int)) = 2 * (x : Int) := wrap_small (by omega) (by omega)
        have hw2 : IntKind.i64.wrap (2 * (x : Int) + 1) = 2 * (x : Int) + 1 := wrap_small (by omega) (by omega)
        have ht1 := fun p lo W (h : MapAt W lo p (Mp.at_ l) l.length) (hlo : lo ≤ W.heap.size) => impl_takeOut p lo l.length (Mp.at_ l) (2 * x) pa (2 * (x : Int)) (by omega) W h hlo (by omega) hpa h3 (fun j hj hh => hP.inj _ _ hj hpa (by rw [hh, h3])) (by omega)
        have ht2 := fun p lo W (h : MapAt W lo p (Mp.swp (Mp.at_ l) (2 * x) pa) l.length) (hlo : lo ≤ W.heap.size) => impl_takeOut p lo l.length (Mp.swp (Mp.at_ l) (2 * x) pa) (2 * x + 1) pb (2 * (x : Int) + 1) (by omega) W h hlo hx hpb h4 (fun j hj hh => hP1.inj _ _ hj hpb (by rw [hh, h4])) (by omega)
        have hdr := fun p lo W (h : MapAt W lo p (Mp.swp (Mp.swp (Mp.at_ l) (2 * x) pa) (2 * x + 1) pb) l.length) (hlo : lo ≤ W.heap.size) => impl_dropMates p lo (l.length - 2) (Mp.swp (Mp.swp (Mp.at_ l) (2 * x) pa) (2 * x + 1) pb) (Mp.dropF l x) x (x : Int) rfl W (by rw [show l.length - 2 + 2 = l.length from by omega]; exact h) hlo hE.le hE.up hE.perf.lt (by omega)
        generalize Mp.swp (Mp.swp (Mp.at_ l) (2 * x) pa) (2 * x + 1) pb = f2 at *
        generalize Mp.swp (Mp.at_ l) (2 * x) pa = f1 at *
        generalize Mp.dropF l x = ff at *
        generalize ((l.length / 2 : Nat) : Int) = m2 at *
        have Hmap := Lib.hid hmap; have HA := Lib.hid hA; have HB := Lib.hid hB; have Ht1 := Lib.hid ht1; have Ht2 := Lib.hid ht2; have Hdr := Lib.hid hdr
        clear hmap hA hB ha hok hM h2 h1 ht1 ht2 hdr hE hP hP1 hm h3 h4
        go_enter Try.func37, Try.ntmps37
        go_wp2_with fail
        refine Hmap.out.mono ?_
        rintro e w1 ⟨⟨p, rfl, hm⟩, hb⟩
        have Hb := Lib.hid hb; have Hm := Lib.hid hm
        clear hb hm
        go_wp2_with fail
        refine (HA.out _ _ _ Hm.out).mono ?_
        rintro e w2 ⟨rfl, hw⟩
        rw [hw]; clear hw
        go_wp2_with fail
        refine (HB.out _ _ _ Hm.out).mono ?_
        rintro e w2 ⟨rfl, hw⟩
        rw [hw]; clear hw
        go_wp2_with fail
        refine (Ht1.out _ _ _ Hm.out Hb.out.size).mono ?_
        rintro e w2 ⟨rfl, hm, hb⟩
        have Hm2 := Lib.hid hm; have Hb2 := Lib.hid (Hb.out.trans hb)
        clear hm hb
        go_wp2_with fail
        refine (Ht2.out _ _ _ Hm2.out Hb2.out.size).mono ?_
        rintro e w2 ⟨rfl, hm, hb⟩
        have Hm3 := Lib.hid hm; have Hb3 := Lib.hid (Hb2.out.trans hb)
        clear hm hb
        go_wp2_with fail
        refine (Hdr.out _ _ _ Hm3.out Hb3.out.size).mono ?_
        rintro e w2 ⟨rfl, hm, hb⟩
        have Hm4 := Lib.hid hm; have Hb4 := Lib.hid (Hb3.out.trans hb)
        clear hm hb
        obtain ⟨g, cap, hcell, _, hcap, hcm, _, _, _, _, _, _, hrow⟩ := Hm4.out.open
        have Hrow := Lib.hid hrow
        clear hrow
        go_wp2
        go_ret2
        exact (own_gives Hrow.out (Cls.row_len _ _) Hb4.out).with
    · rw [decide_eq_false h1] at hA
      have hok : ¬ Mp.DropOk l ve := fun h => h1 h.1.2
      rw [decide_eq_false hok, show Mp.drop l ve = [] from if_neg hok]
      have Hmap := Lib.hid hmap; have HA := Lib.hid hA
      clear hmap hA hB ha hok hM h1
      go_enter Try.func37, Try.ntmps37
      go_wp2_with fail
      refine Hmap.out.mono ?_
      rintro e w1 ⟨⟨p, rfl, hm⟩, hb⟩
      have Hb := Lib.hid hb; have Hm := Lib.hid hm
      clear hb hm
      go_wp2_with fail
      refine (HA.out _ _ _ Hm.out).mono ?_
      rintro e w2 ⟨rfl, hw⟩
      rw [hw]; clear hw
      go_wp2
      go_ret2
      exact Gives2.none Hb.out
  · have hc := impl_mapOf_no a c l w ha hl hM
    have hok : ¬ Mp.DropOk l ve := fun h => hM h.1.1
    rw [decide_eq_false hok, show Mp.drop l ve = [] from if_neg hok]
    have Hc := Lib.hid hc
    clear hc hM ha hok
    go_enter Try.func37, Try.ntmps37
    go_wp2_with fail
    refine Hc.out.mono ?_
    rintro e w1 ⟨rfl, hb⟩
    have Hb := Lib.hid hb; clear hb
    go_wp2
    go_ret2
    exact Gives2.none Hb.out

end Go.Proofs.Ytjpafacldcnboaa
