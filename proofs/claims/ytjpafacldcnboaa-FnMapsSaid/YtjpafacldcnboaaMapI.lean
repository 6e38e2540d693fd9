/-
  The walks of the library's Index and Delete over integers, of takeOut and of dropMates.
-/
import Derived.Test.YtjpafacldcnboaaBase
import Derived.Test.YtjpafacldcnboaaSlice
import Derived.Test.YtjpafacldcnboaaInts
import Derived.Test.YtjpafacldcnboaaGrid
import Derived.Test.YtjpafacldcnboaaGridRows
import Derived.Test.YtjpafacldcnboaaOwn
import Derived.Test.YtjpafacldcnboaaAppend
import Derived.Test.YtjpafacldcnboaaClass
import Derived.Test.YtjpafacldcnboaaLab
import Derived.Test.YtjpafacldcnboaaMap
import Derived.Test.YtjpafacldcnboaaMapA
import Derived.Test.YtjpafacldcnboaaMapB
import Derived.Test.YtjpafacldcnboaaMapC
import Derived.Test.YtjpafacldcnboaaPut
import Derived.Test.YtjpafacldcnboaaDelTwo
import Derived.Test.YtjpafacldcnboaaTopo
import Derived.Test.YtjpafacldcnboaaMapTopo
import Derived.Test.YtjpafacldcnboaaMapTopo2
import Derived.Deep.QuietTactic
import Derived.BigQuiet
import Derived.Deep.RegionLaw
import Derived.StillTailTactics
import Derived.Lib.SliceRun
namespace Go.Proofs.Ytjpafacldcnboaa
open Go.RowKit

set_option maxRecDepth 10000 in
set_option maxHeartbeats 1000000 in
/-- Where a number stands that occurs once. -/
theorem lib_IndexAt (a : Option Addr) (cap n q : Nat) (f : Nat → Nat) (x : Nat) (zx : Int) (hzx : zx = ((x : Nat) : Int)) (w : World) (ha : RowAt w a (intCells (Cls.row f n))) (hq : q < n) (hfq : f q = x) (hone : ∀ j, j < n → f j = x → j = q) (hn : n ≤ 1000) :
    Calls Try.prog 154 #[.slice a n cap, .int .i64 zx] w fun e w' => e = .returned (.int .i64 (q : Int)) ∧ w' = w := by
  have hcells : ∀ j, j < n → ∃ b o, a = some ⟨b, o, none⟩ ∧ w.cell? ⟨b, o + j, none⟩ = some (.int .i64 ((f j : Nat) : Int)) := fun j hj => by
    obtain ⟨b, o, e, _, hc⟩ := intCells_get? ha (Cls.row_get hj)
    exact ⟨b, o, e, hc⟩
  have Hcells := Lib.hid hcells; have Hone := Lib.hid hone; have Hfq := Lib.hid hfq
  clear ha hcells hone hfq
  go_enter Try.func154, Try.ntmps154
  go_wp2
  go_loopw [5, 8] (fun _ iv wr => ∃ i : Nat, i ≤ q ∧ iv = .int .i64 i ∧ wr = w) (fun _ iv _ => n - (intOf iv).toNat)
  case atStart => exact ⟨0, by omega, rfl, rfl⟩
  case round =>
    obtain ⟨i, hi, rfl, rfl⟩ := hrel
    have hlt : i < n := by omega
    obtain ⟨b, o, rfl, hcell⟩ := Hcells.out i hlt
    have hlti : (i : Int) < (n : Int) := by omega
    by_cases he : f i = x
    · have Hiq := Lib.hid (Hone.out i hlt he)
      have heq : (zx == ((f i : Nat) : Int)) = true := by rw [he, hzx]; simp
      have Hzx := Lib.hid hzx
      clear he hzx
      generalize ((f i : Nat) : Int) = y at *
      go_wp2
      go_ret
      exact ⟨by rw [Hiq.out]; rfl, rfl⟩
    · have hne : i ≠ q := fun e => he (by rw [e]; exact Hfq.out)
      have heq : (zx == ((f i : Nat) : Int)) = false := beq_eq_false_iff_ne.2 (by omega)
      have Hzx := Lib.hid hzx
      clear he hzx
      generalize ((f i : Nat) : Int) = y at *
      go_wp2
      go_roundw
      case rel => exact ⟨i + 1, by omega, by go_num, trivial⟩
      case measure => simp [intOf]; omega


theorem Mp.out_swp {f : Nat → Nat} {d q : Nat} (h : f q = d) (k : Nat) : Mp.upd (Mp.upd f q (f d)) d d k = Mp.swp f d q k := by
  unfold Mp.upd Mp.swp
  by_cases h1 : k = d
  · rw [if_pos h1, if_pos h1, h]
  · rw [if_neg h1, if_neg h1]
set_option maxRecDepth 10000 in
set_option maxHeartbeats 2000000 in
theorem impl_takeOut (p lo n : Nat) (f : Nat → Nat) (d q : Nat) (zd : Int) (hzd : zd = ((d : Nat) : Int)) (w : World) (h : MapAt w lo p f n) (hlo : lo ≤ w.heap.size) (hd : d < n) (hq : q < n) (hfq : f q = d) (hone : ∀ j, j < n → f j = d → j = q) (hn : n ≤ 1000) :
    Calls Try.prog 97 #[.pointer (some ⟨p, 0, none⟩), .int .i64 zd] w fun e w' => e = .returned (.tuple #[]) ∧ MapAt w' lo p (Mp.swp f d q) n ∧ Below lo w w' := by
  subst hzd
  obtain ⟨g, cap, hcell, _, hcap, hcm, hpg, hlop, hp, hlog, hg, hblk, hrow⟩ := h.open
  have hidx := lib_IndexAt (some ⟨g, 0, none⟩) cap n q f d (d : Int) rfl w (MapAt.row hrow) hq hfq hone hn
  have hrd := ownRow_cell hrow hd
  have hrq := ownRow_cell hrow hq
  have hfz := hrow.frozenAt q
  have m1 : MapAt (w.setCell ⟨g, q, none⟩ (.int .i64 ((f d : Nat) : Int))) lo p (Mp.upd f q (f d)) n := MapAt.put hblk hrow hlop hcap hcm (f d) hq
  have b1 : Below lo w (w.setCell ⟨g, q, none⟩ (.int .i64 ((f d : Nat) : Int))) := (Below.refl lo w).setCell hlog _
  obtain ⟨g', cap', hcell1, _, hcap1, hcm1, hpg1, hlop1, hp1, hlog1, hg1, hblk1, hrow1⟩ := m1.open
  have heq : g' = g ∧ cap' = cap := by
    have e1 := hblk1
    have e2 : Blk (w.setCell ⟨g, q, none⟩ (.int .i64 ((f d : Nat) : Int))) p 67 #[.slice (some ⟨g, 0, none⟩) n cap] := hblk.far hpg _
    unfold Blk at e1 e2
    rw [e1] at e2
    injection e2 with e2; injection e2 with e2 _ _
    simpa using e2
  obtain ⟨rfl, rfl⟩ := heq
  have hrd1 := ownRow_cell hrow1 hd
  have hfz1 := hrow1.frozenAt d
  have m2 := (MapAt.put hblk1 hrow1 hlop1 hcap1 hcm1 d hd).congr fun k _ => Mp.out_swp hfq k
  have b2 := b1.setCell (p := ⟨g', d, none⟩) hlog (.int .i64 ((d : Nat) : Int))
  have h0d : (0 : Int) ≤ (d : Int) := by omega
  have h1d : (d : Int) < (n : Int) := by omega
  have h0b : (0 : Int) ≤ (q : Int) := by omega
  have h1b : (q : Int) < (n : Int) := by omega
  have M2 := Lib.hid m2; have B2 := Lib.hid b2; have Hidx := Lib.hid hidx
  clear m2 b2 m1 b1 hblk1 hrow1 hblk hrow h hidx hone hfq
  generalize Mp.upd f q (f d) d = z1 at hrd1
  generalize Mp.swp f d q = ff at *
  generalize f d = fd at *
  generalize f q = fq at *
  go_enter Try.func97, Try.ntmps97
  go_wp2_with fail
  refine Hidx.out.mono ?_
  rintro e w1 ⟨rfl, hw⟩
  rw [hw]; clear hw
  go_wp2
  go_still_tail 13, (by kernel_rfl)
  change wpList _ _ _ _ _ w.drew
  go_wp2
  exact bodyPost_end (v := .tuple #[]) (by first | kernel_rfl | simp [results, Try.f97]) rfl ⟨rfl, M2.out, below_drewN B2.out 1⟩

namespace Mp
theorem row_but (f : Nat → Nat) {n a : Nat} (ha : a ≤ n) : (intCells (Cls.row f (n + 2))).take a ++ (intCells (Cls.row f (n + 2))).drop (a + 2) = intCells (Cls.row (fun x => f (up2 a x)) n) := by
  apply List.ext_getElem?
  intro k
  have hl : (intCells (Cls.row f (n + 2))).length = n + 2 := by rw [intCells_len, Cls.row_len]
  by_cases hk : k < n
  · have e : (intCells (Cls.row (fun x => f (up2 a x)) n))[k]? = some (.int .i64 ((f (up2 a k) : Nat) : Int)) := by simp [intCells, Cls.row_get hk]
    rw [e]
    by_cases h1 : k < a
    · rw [List.getElem?_append_left (by rw [List.length_take, hl]; omega), List.getElem?_take, if_pos h1]
      have hu : up2 a k = k := by unfold up2; rw [if_pos h1]
      rw [hu]; simp [intCells, Cls.row_get (show k < n + 2 by omega)]
    · rw [List.getElem?_append_right (by rw [List.length_take, hl]; omega), List.getElem?_drop, List.length_take, hl]
      have hu : up2 a k = k + 2 := by unfold up2; rw [if_neg h1]
      rw [hu, show a + 2 + (k - min a (n + 2)) = k + 2 from by omega]
      simp [intCells, Cls.row_get (show k + 2 < n + 2 by omega)]
  · rw [List.getElem?_eq_none (by rw [List.length_append, List.length_take, List.length_drop, hl]; omega), List.getElem?_eq_none (by rw [intCells_len, Cls.row_len]; omega)]
/-- The darts below i are numbered anew. -/
def anew (F : Nat → Nat) (a i : Nat) : Nat → Nat := fun x => if x < i then F x else up2 a (F x)
theorem anew_step (F : Nat → Nat) (a i k : Nat) : upd (anew F a i) i (F i) k = anew F a (i + 1) k := by
  unfold upd anew
  by_cases e : k = i
  · subst e; rw [if_pos rfl, if_pos (by omega)]
  · rw [if_neg e]
    by_cases e2 : k < i
    · rw [if_pos e2, if_pos (by omega)]
    · rw [if_neg e2, if_neg (by omega)]
theorem anew_same {F : Nat → Nat} {a i : Nat} (h : F i < a) (k : Nat) : anew F a i k = anew F a (i + 1) k := by
  unfold anew
  by_cases e : k = i
  · subst e
    rw [if_neg (by omega), if_pos (by omega)]
    unfold up2; rw [if_pos h]
  · by_cases e2 : k < i
    · rw [if_pos e2, if_pos (by omega)]
    · rw [if_neg e2, if_neg (by omega)]
end Mp

set_option maxRecDepth 10000 in
set_option maxHeartbeats 4000000 in
theorem impl_dropMates (p lo n : Nat) (f F : Nat → Nat) (e : Nat) (ze : Int) (hze : ze = ((e : Nat) : Int)) (w : World) (h : MapAt w lo p f (n + 2)) (hlo : lo ≤ w.heap.size) (he : 2 * e ≤ n) (hF : ∀ x, x < n → f (Mp.up2 (2 * e) x) = Mp.up2 (2 * e) (F x)) (hFn : ∀ x, x < n → F x < n) (hn : n + 2 ≤ 1000) :
    Calls Try.prog 98 #[.pointer (some ⟨p, 0, none⟩), .int .i64 ze] w fun e w' => e = .returned (.tuple #[]) ∧ MapAt w' lo p F n ∧ Below lo w w' := by
  subst hze
  obtain ⟨g, cap, hcell, hfz, hcap, hcm, hpg, hlop, hp, hlog, hg, hblk, hrow⟩ := h.open
  have hdel := lib_DeleteTwo g cap (n + 2) (2 * e) lo _ w hrow (intCells_one _) (by omega) hn
  rw [Mp.row_but f he, row_congr (f := fun x => f (Mp.up2 (2 * e) x)) (f' := fun x => Mp.up2 (2 * e) (F x)) hF] at hdel
  have e1 : IntKind.i64.wrap (2 * (e : Int)) = 2 * (e : Int) := wrap_small (by omega) (by omega)
  have e2 : IntKind.i64.wrap (2 * (e : Int) + 2) = 2 * (e : Int) + 2 := wrap_small (by omega) (by omega)
  have e3 : (((2 * e : Nat)) : Int) = 2 * (e : Int) := by omega
  rw [e3] at hdel
  simp only [Nat.add_sub_cancel] at hdel
  have hHf := fun x (hx : x < n) => hFn x hx
  have Hdel := Lib.hid hdel; have Hblk := Lib.hid hblk; have HFn := Lib.hid hHf
  clear hdel hblk hrow h hF hFn hHf e3
  go_enter Try.func98, Try.ntmps98
  go_wp2_with fail
  refine Hdel.out.mono ?_
  rintro e0 w1 ⟨rfl, hown, hb, hoth⟩
  have hp1 : Blk w1 p 67 #[.slice (some ⟨g, 0, none⟩) (n + 2) cap] := (hoth p hpg).trans Hblk.out
  have hc1 := hp1.cell 0
  have hf1 := hp1.frozen 0
  have hp2 : Blk (w1.setCell ⟨p, 0, none⟩ (.slice (some ⟨g, 0, none⟩) n cap)) p 67 #[.slice (some ⟨g, 0, none⟩) n cap] := hp1.put 0 _
  have hown2 := own_grown hown (g := p) (only_setCell (p := ⟨p, 0, none⟩) (World.grownBy.refl _ _) (Or.inl rfl) (.slice (some ⟨g, 0, none⟩) n cap)) (fun k hk => by rw [own_block hk]; exact fun e => hpg e.symm)
  have hb2 := hb.setCell (p := ⟨p, 0, none⟩) hlop (.slice (some ⟨g, 0, none⟩) n cap)
  have hc2 := hp2.cell 0
  have Hp2 := Lib.hid hp2; have Hb2 := Lib.hid hb2
  have Hown2 : Hid ((w1.setCell ⟨p, 0, none⟩ (.slice (some ⟨g, 0, none⟩) n cap)).ownsRow lo 3 1 (.slice (some ⟨g, 0, none⟩) n cap) n (intCells (Cls.row (Mp.anew F (2 * e) 0) n))) := Lib.hid (by rw [row_congr (f := Mp.anew F (2 * e) 0) (f' := fun x => Mp.up2 (2 * e) (F x)) fun k _ => by simp [Mp.anew]]; exact hown2)
  clear hown hb hoth hp1 hp2 hown2 hb2
  go_wp2
  go_loopw [4, 5, 24] (fun _ _ iv wr => ∃ i : Nat, i ≤ n ∧ iv = .int .i64 i ∧ Hid (Below lo w wr) ∧ Hid (Blk wr p 67 #[.slice (some ⟨g, 0, none⟩) n cap]) ∧ Hid (wr.ownsRow lo 3 1 (.slice (some ⟨g, 0, none⟩) n cap) n (intCells (Cls.row (Mp.anew F (2 * e) i) n)))) (fun _ _ iv _ => n - (intOf iv).toNat)
  case atStart => exact ⟨0, by omega, rfl, Hb2, Hp2, Hown2⟩
  case round =>
    clear Hb2 Hp2 Hown2 hc1 hf1 hc2
    obtain ⟨i, hi, rfl, hb, hq, hk⟩ := hrel
    by_cases hlt : i < n
    · have hpc := hq.out.cell 0
      have hcv := ownRow_cell hk.out hlt
      have hfz3 := hk.out.frozenAt i
      have hFi := HFn.out i hlt
      have hval : Mp.anew F (2 * e) i i = Mp.up2 (2 * e) (F i) := by unfold Mp.anew; rw [if_neg (by omega)]
      by_cases hlow : F i < 2 * e
      · have hu : Mp.up2 (2 * e) (F i) = F i := by unfold Mp.up2; rw [if_pos hlow]
        rw [hval, hu] at hcv
        have Hk2 : Hid (wr.ownsRow lo 3 1 (.slice (some ⟨g, 0, none⟩) n cap) n (intCells (Cls.row (Mp.anew F (2 * e) (i + 1)) n))) := Lib.hid (by rw [row_congr (f := Mp.anew F (2 * e) (i + 1)) (f' := Mp.anew F (2 * e) i) fun k _ => (Mp.anew_same hlow k).symm]; exact hk.out)
        have hng : ¬ 2 * (e : Int) < (F i : Int) := by omega
        clear hval hu hlow
        generalize F i = y at *
        go_wp2
        go_roundw
        case rel => exact ⟨i + 1, by omega, by go_num, hb, hq, Hk2⟩
        case measure => simp [intOf]; omega
      · have hu : Mp.up2 (2 * e) (F i) = F i + 2 := by unfold Mp.up2; rw [if_neg hlow]
        rw [hval, hu] at hcv
        have hput := ownRow_put hk.out (F i) hlt
        have Hk2 : Hid ((wr.setCell ⟨g, i, none⟩ (.int .i64 ((F i : Nat) : Int))).ownsRow lo 3 1 (.slice (some ⟨g, 0, none⟩) n cap) n (intCells (Cls.row (Mp.anew F (2 * e) (i + 1)) n))) := Lib.hid (by rw [row_congr (f := Mp.anew F (2 * e) (i + 1)) (f' := Mp.upd (Mp.anew F (2 * e) i) i (F i)) fun k _ => (Mp.anew_step F (2 * e) i k).symm]; exact hput)
        have Hq2 := Lib.hid (hq.out.far (p := ⟨g, i, none⟩) hpg (.int .i64 ((F i : Nat) : Int)))
        have Hb2 := Lib.hid (hb.out.setCell (p := ⟨g, i, none⟩) hlog (.int .i64 ((F i : Nat) : Int)))
        have hng : 2 * (e : Int) < ((F i + 2 : Nat) : Int) := by omega
        have hsub : IntKind.i64.wrap (((F i + 2 : Nat) : Int) - 2) = ((F i : Nat) : Int) := by
          rw [show ((F i + 2 : Nat) : Int) - 2 = ((F i : Nat) : Int) from by omega]; exact wrap_small (by omega) (by omega)
        clear hval hu hlow hput
        generalize hz : F i + 2 = z at *
        generalize F i = y at *
        clear hz
        have h0i : (0 : Int) ≤ (i : Int) := by omega
        have h1i : (i : Int) < (n : Int) := by omega
        go_wp2
        go_roundw
        case rel => exact ⟨i + 1, by omega, by go_num, Hb2, Hq2, Hk2⟩
        case measure => simp [intOf]; omega
    · obtain rfl : i = n := by omega
      have hM : MapAt wr lo p F i := by
        refine ⟨g, cap, hq.out, ?_, hlop, by omega, hcm⟩
        rw [row_congr (f := F) (f' := Mp.anew F (2 * e) i) fun k hk => by unfold Mp.anew; rw [if_pos hk]]
        exact hk.out
      have HM := Lib.hid hM; clear hM
      go_wp2
      exact bodyPost_end (v := .tuple #[]) (by first | kernel_rfl | simp [results, Try.f98]) rfl ⟨rfl, HM.out, hb.out⟩
end Go.Proofs.Ytjpafacldcnboaa
