/-
  For every draw: relators are trivial, trivial words have no homology, and equal words stay equal.
-/
import Derived.Test.YtfaagbmaekoogaaBase
import Derived.Test.YtfaagbmaekoogaaLow
import Derived.Test.YtfaagbmaekoogaaSlice
import Derived.Test.YtfaagbmaekoogaaIntRow
import Derived.Test.YtfaagbmaekoogaaInts
import Derived.Test.YtfaagbmaekoogaaOwn
import Derived.Test.YtfaagbmaekoogaaAppend
import Derived.Test.YtfaagbmaekoogaaGrid
import Derived.Test.YtfaagbmaekoogaaGridRows
import Derived.Test.YtfaagbmaekoogaaWord
import Derived.Test.YtfaagbmaekoogaaIsWord
import Derived.Test.YtfaagbmaekoogaaReduce
import Derived.Test.YtfaagbmaekoogaaReduceSpec
import Derived.Test.YtfaagbmaekoogaaTurn
import Derived.Test.YtfaagbmaekoogaaInvert
import Derived.Test.YtfaagbmaekoogaaSums
import Derived.Test.YtfaagbmaekoogaaUses
import Derived.Test.YtfaagbmaekoogaaAm
import Derived.Test.YtfaagbmaekoogaaGrpA
import Derived.Test.YtfaagbmaekoogaaGrpC
import Derived.Test.YtfaagbmaekoogaaGrpD
import Derived.Test.YtfaagbmaekoogaaGrpE
import Derived.Test.YtfaagbmaekoogaaGrpF
import Derived.Test.YtfaagbmaekoogaaGrpG
import Derived.Test.YtfaagbmaekoogaaGrpX
import Derived.Test.YtfaagbmaekoogaaDrawGrp
import Derived.Test.YtfaagbmaekoogaaDrawGrp2
import Derived.Test.YtfaagbmaekoogaaTri
import Derived.Test.YtfaagbmaekoogaaCovA
import Derived.Test.YtfaagbmaekoogaaTotal0
import Derived.Test.YtfaagbmaekoogaaDraw
import Derived.Test.YtfaagbmaekoogaaReadBytes
import Derived.Test.YtfaagbmaekoogaaSame
import Derived.Deep.DeepWitnessRowRef
import Derived.OpenShut
import Derived.Deep.DeepHandedRow
import Derived.LaidMore
namespace Go.Proofs.Ytfaagbmaekoogaa.fnGroups
open Go.ChangeShapes Go.WideShapes Go.ChangeAt Go.RowKit Go.Sort
open Go.ChangeMaps (open_string)

def Done (w : World) (e : Ending) (w' : World) : Prop := e = .returned (.bool true) ∧ Below w.heap.size w w'
def acts : List (List Int) := [[1, 2, 0], [1, 0, 2], [1, 0, 2], [1, 2, 0]]
theorem acts_img : ∀ x : Int, Dn.Let 2 x → ∀ s, s < 3 → Cv.img acts s x = Dn.img x s := by
  intro x hx s hs
  obtain ⟨⟨h0, _, _⟩, h3⟩ := hx
  have h1 : x = -4 ∨ x = -3 ∨ x = -2 ∨ x = -1 ∨ x = 1 ∨ x = 2 ∨ x = 3 ∨ x = 4 := by omega
  have h2 : s = 0 ∨ s = 1 ∨ s = 2 := by omega
  rcases h1 with rfl | rfl | rfl | rfl | rfl | rfl | rfl | rfl <;> rcases h2 with rfl | rfl | rfl <;> decide
theorem acts_act : ∀ (l : List Int), (∀ x ∈ l, Dn.Let 2 x) → ∀ s, s < 3 → Cv.act acts l s = l.foldl (fun s x => Dn.img x s) s
  | [], _, _, _ => rfl
  | x :: l, h, s, hs => by
    have hx := h x (List.mem_cons_self ..)
    show Cv.act acts l (Cv.img acts s x) = _
    rw [acts_img x hx s hs]
    exact acts_act l (fun y hy => h y (List.mem_cons_of_mem _ hy)) _ (Dn.img_lt x hs)
theorem acts_triv {l : List Int} (h : Dn.TrivW 2 l) : Cv.actW acts l = [0, 1, 2] := by
  have hok : Cv.Ok acts l := ⟨by decide, h.1.2.1, fun x hx => by have := h.1.2.2 x hx; show x.natAbs ≤ 4; omega⟩
  have e : ∀ s, s < 3 → Cv.act acts l s = s := fun s hs => by rw [acts_act l h.1.lets s hs]; exact Dn.sheets h.2 hs
  rw [Cv.actW_of hok]
  show [((Cv.act acts l 0 : Nat) : Int), ((Cv.act acts l 1 : Nat) : Int), ((Cv.act acts l 2 : Nat) : Int)] = _
  rw [e 0 (by decide), e 1 (by decide), e 2 (by decide)]; rfl

theorem inverse_len24 (l : List Int) : (Word.inverse l).length ≤ 24 := by
  unfold Word.inverse
  split
  · rename_i h; rw [Word.inv_len]; exact h.2
  · simp
theorem reduce_len24 (l : List Int) : (Word.reduce l).length ≤ 24 := by
  unfold Word.reduce
  split
  · rename_i h; exact Nat.le_trans (Word.red_len l) h.2
  · simp
theorem rel_facts {m : Int} (k : m = 1 ∨ m = 2) : decide (Dn.TrivW m (Dn.rel m)) = true ∧ decide (Dn.CommW m [1] [1, 1]) = true := by
  rcases k with rfl | rfl
  · exact ⟨decide_eq_true Dn.trivW_rel.1, decide_eq_true Dn.commW_one.1⟩
  · exact ⟨decide_eq_true Dn.trivW_rel.2, decide_eq_true Dn.commW_one.2⟩

theorem acts_grid (w : World) : ∃ w', w' = (((((w.alloc (.cells #[.int .i64 1, .int .i64 2, .int .i64 0] 3)).alloc (.cells #[.int .i64 1, .int .i64 0, .int .i64 2] 3)).alloc (.cells #[.int .i64 1, .int .i64 0, .int .i64 2] 3)).alloc (.cells #[.int .i64 1, .int .i64 2, .int .i64 0] 3)).alloc (.cells #[.slice (some ⟨w.heap.size, 0, none⟩) 3 3, .slice (some ⟨w.heap.size + 1, 0, none⟩) 3 3, .slice (some ⟨w.heap.size + 1 + 1, 0, none⟩) 3 3, .slice (some ⟨w.heap.size + 1 + 1 + 1, 0, none⟩) 3 3] 42)) ∧ Below w.heap.size w w' ∧ GridAt w' (some ⟨w.heap.size + 1 + 1 + 1 + 1, 0, none⟩) acts := by
  have step : ∀ (W : World) (o : Obj), Below W.heap.size W (W.alloc o) := fun W o => (Below.refl _ _).alloc (Nat.le_refl _) o
  have sz : ∀ (W : World) (o : Obj), (W.alloc o).heap.size = W.heap.size + 1 := fun W o => by simp
  have r1 := (Blk.new w 3 #[.int .i64 1, .int .i64 2, .int .i64 0]).row
  have r2 := (Blk.new (w.alloc (.cells #[.int .i64 1, .int .i64 2, .int .i64 0] 3)) 3 #[.int .i64 1, .int .i64 0, .int .i64 2]).row
  have r3 := (Blk.new ((w.alloc (.cells #[.int .i64 1, .int .i64 2, .int .i64 0] 3)).alloc (.cells #[.int .i64 1, .int .i64 0, .int .i64 2] 3)) 3 #[.int .i64 1, .int .i64 0, .int .i64 2]).row
  have r4 := (Blk.new (((w.alloc (.cells #[.int .i64 1, .int .i64 2, .int .i64 0] 3)).alloc (.cells #[.int .i64 1, .int .i64 0, .int .i64 2] 3)).alloc (.cells #[.int .i64 1, .int .i64 0, .int .i64 2] 3)) 3 #[.int .i64 1, .int .i64 2, .int .i64 0]).row
  have r5 := (Blk.new ((((w.alloc (.cells #[.int .i64 1, .int .i64 2, .int .i64 0] 3)).alloc (.cells #[.int .i64 1, .int .i64 0, .int .i64 2] 3)).alloc (.cells #[.int .i64 1, .int .i64 0, .int .i64 2] 3)).alloc (.cells #[.int .i64 1, .int .i64 2, .int .i64 0] 3)) 42 #[.slice (some ⟨w.heap.size, 0, none⟩) 3 3, .slice (some ⟨w.heap.size + 1, 0, none⟩) 3 3, .slice (some ⟨w.heap.size + 1 + 1, 0, none⟩) 3 3, .slice (some ⟨w.heap.size + 1 + 1 + 1, 0, none⟩) 3 3]).row
  rw [sz] at r2
  rw [sz, sz] at r3
  rw [sz, sz, sz] at r4
  rw [sz, sz, sz, sz] at r5
  refine ⟨_, rfl, ?_, [⟨some ⟨w.heap.size, 0, none⟩, 3, [1, 2, 0]⟩, ⟨some ⟨w.heap.size + 1, 0, none⟩, 3, [1, 0, 2]⟩, ⟨some ⟨w.heap.size + 1 + 1, 0, none⟩, 3, [1, 0, 2]⟩, ⟨some ⟨w.heap.size + 1 + 1 + 1, 0, none⟩, 3, [1, 2, 0]⟩], rfl, r5, ?_⟩
  · exact (((((Below.refl _ _).alloc (Nat.le_refl _) _).alloc (by rw [sz]; omega) _).alloc (by rw [sz, sz]; omega) _).alloc (by rw [sz, sz, sz]; omega) _).alloc (by rw [sz, sz, sz, sz]; omega) _
  · intro h hh
    simp only [List.mem_cons, List.not_mem_nil, or_false] at hh
    rcases hh with rfl | rfl | rfl | rfl
    · exact (((r1.below (step _ _)).below (step _ _)).below (step _ _)).below (step _ _)
    · exact ((r2.below (step _ _)).below (step _ _)).below (step _ _)
    · exact (r3.below (step _ _)).below (step _ _)
    · exact r4.below (step _ _)

set_option maxRecDepth 100000 in
set_option maxHeartbeats 16000000 in
theorem law (a : Option Addr) (c : Nat) (l : List Int) (w : World) (hh : RowAt w a (byteCells l) ∧ l.length ≤ maxLen ∧ ∀ x ∈ l, 0 ≤ x ∧ x ≤ 255) :
    Calls Try.prog 4 #[.slice a l.length c] w (Done w) := by
  obtain ⟨ha, hl, hb⟩ := hh
  unfold maxLen at hl
  have Hb := Lib.hid hb; have Ha := Lib.hid ha
  clear hb ha
  by_cases hbig : 1048576 < l.length
  · have hd : decide (1048576 < l.length) = true := by simpa using hbig
    go_enter Try.func4, Try.ntmps4
    go_wp2_with fail
    refine (big a l.length c w (by omega)).mono ?_
    rintro e w' ⟨rfl, rfl⟩
    go_wp2
    go_ret
    exact ⟨rfl, Below.refl _ _⟩
  · have hd : decide (1048576 < l.length) = false := by simpa using hbig
    have hsz : l.length ≤ 1048576 := by omega
    have hB0 := Below.refl w.heap.size w
    have HR0 := Lib.hid (Rows.nil w)
    go_enter Try.func4, Try.ntmps4
    go_wp2_with fail
    refine (big a l.length c w (by omega)).mono ?_
    rintro e w' ⟨rfl, rfl⟩
    go_wp2_with fail
    refine (drawIsTrivialWord a c l w (Ha.out.below hB0) Hb.out hsz).mono ?_
    rintro e w2 ⟨G, ag, cg, lg, rfl, hG0, hG1, hrg, hlg, hcg, hb1⟩
    have hB2 : Below w.heap.size w w2 := hB0.trans (hb1.mono hB0.size)
    have hB2x := Lib.hid hB2; clear hB2
    have HR3 := Lib.hid (Rows.cons (HR0.out.below hb1) hrg)
    clear HR0
    clear hb1 hrg
    have fS : (Dn.stepW G lg).isSome = true → ((Dn.stepW G lg).getD []).length < (Word.reduce lg).length ∧ decide (Dn.TrivW G ((Dn.stepW G lg).getD [])) = decide (Dn.TrivW G lg) := fun h => by obtain ⟨r, hr⟩ := Option.isSome_iff_exists.1 h; rw [hr]; obtain ⟨h1, h2⟩ := Dn.stepW_facts hr; exact ⟨h1, decide_eq_decide.2 h2⟩
    have fT : decide (Dn.TrivW G lg) = true → (∀ x ∈ Dn.homW G lg, x = 0) ∧ decide (Dn.TrivW G (Word.inverse lg)) = true ∧ decide (Dn.TrivW G (Word.turned lg 3)) = true := fun h => by have hk := of_decide_eq_true h; exact ⟨(Dn.homW_zero hk).2, decide_eq_true (Dn.trivW_inv hk), decide_eq_true (Dn.trivW_turn hk 3)⟩
    have fA : decide (Dn.TrivW 2 lg) = true → Cv.actW acts lg = [0, 1, 2] := fun h => acts_triv (of_decide_eq_true h)
    have lS := Dn.stepW_len G lg; have lW := Dn.dehnW_len G lg; have lH := Dn.homW_len G lg
    have lI := inverse_len24 lg
    have lU := turned_len lg 3
    have lR := reduce_len24 lg
    have ciS := fun (q : Option Addr) (d : Nat) (W : World) (k : RowAt W q (intCells lg)) => impl_DehnStep G q d lg W k (by omega)
    have csS := fun (q : Option Addr) (d : Nat) (W : World) (k : RowAt W q (intCells lg)) => spec_DehnStep G q d lg W k (by omega)
    have ciW := fun (q : Option Addr) (d : Nat) (W : World) (k : RowAt W q (intCells lg)) => impl_DehnWord G q d lg W k (by omega)
    have csW := fun (q : Option Addr) (d : Nat) (W : World) (k : RowAt W q (intCells lg)) => spec_DehnWord G q d lg W k (by omega)
    have ciT := fun (q : Option Addr) (d : Nat) (W : World) (k : RowAt W q (intCells lg)) => impl_IsTrivialWord G q d lg W k (by omega)
    have csT := fun (q : Option Addr) (d : Nat) (W : World) (k : RowAt W q (intCells lg)) => spec_IsTrivialWord G q d lg W k (by omega)
    have ciH := fun (q : Option Addr) (d : Nat) (W : World) (k : RowAt W q (intCells lg)) => impl_HomologyOf G q d lg W k (by omega)
    have csH := fun (q : Option Addr) (d : Nat) (W : World) (k : RowAt W q (intCells lg)) => spec_HomologyOf G q d lg W k (by omega)
    have csR := fun (q : Option Addr) (d : Nat) (W : World) (k : RowAt W q (intCells lg)) => spec_ReduceWord q d lg W k (by omega)
    have ciX := fun (q : Option Addr) (d : Nat) (W : World) (k : RowAt W q (intCells ((Dn.stepW G lg).getD []))) => impl_IsTrivialWord G q d ((Dn.stepW G lg).getD []) W k (by omega)
    have csI := fun (q : Option Addr) (d : Nat) (W : World) (k : RowAt W q (intCells lg)) => spec_InverseWord q d lg W k (by omega)
    have csU := fun (q : Option Addr) (d : Nat) (W : World) (k : RowAt W q (intCells lg)) (hd : lg.length ≤ d) => spec_TurnWord q d lg 3 W k (by omega) hd (by decide) (by decide)
    have ciI := fun (q : Option Addr) (d : Nat) (W : World) (k : RowAt W q (intCells (Word.inverse lg))) => impl_IsTrivialWord G q d (Word.inverse lg) W k (by omega)
    have ciU := fun (q : Option Addr) (d : Nat) (W : World) (k : RowAt W q (intCells (Word.turned lg 3))) => impl_IsTrivialWord G q d (Word.turned lg 3) W k (by omega)
    have ciT2 := fun (q : Option Addr) (d : Nat) (W : World) (k : RowAt W q (intCells lg)) => impl_IsTrivialWord 2 q d lg W k (by omega)
    have csA := fun (q q2 : Option Addr) (d d2 : Nat) (W : World) (k : GridAt W q acts) (k2 : RowAt W q2 (intCells lg)) => spec_ActWord q q2 d d2 acts lg W k (by decide) (by decide) k2 (by omega)
    generalize decide (Dn.TrivW G ((Dn.stepW G lg).getD [])) = T1 at *
    generalize decide (Dn.TrivW G (Word.inverse lg)) = Ti at *
    generalize decide (Dn.TrivW G (Word.turned lg 3)) = Tu at *
    generalize decide (Dn.TrivW 2 lg) = T2 at *
    generalize decide (Dn.TrivW G lg) = Tv at *
    generalize (Dn.stepW G lg).isSome = Bs at *
    generalize (Dn.stepW G lg).getD [] = S1 at *
    generalize Dn.dehnW G lg = Dw at *
    generalize Dn.homW G lg = Ho at *
    generalize Word.reduce lg = Rd at *
    generalize Word.inverse lg = Iv at *
    generalize Word.turned lg 3 = Ur at *
    generalize Cv.actW acts lg = Aw at *
    have HciS := Lib.hid ciS; have HcsS := Lib.hid csS; have HciW := Lib.hid ciW; have HcsW := Lib.hid csW; have HciT := Lib.hid ciT; have HcsT := Lib.hid csT; have HciH := Lib.hid ciH; have HcsH := Lib.hid csH; have HcsR := Lib.hid csR; have HciX := Lib.hid ciX; have HcsI := Lib.hid csI; have HcsU := Lib.hid csU; have HciI := Lib.hid ciI; have HciU := Lib.hid ciU; have HciT2 := Lib.hid ciT2; have HcsA := Lib.hid csA; have HfS := Lib.hid fS; have HfT := Lib.hid fT; have HfA := Lib.hid fA
    clear ciS csS ciW csW ciT csT ciH csH csR ciX csI csU ciI ciU ciT2 csA fS fT fA
    go_wp2_with fail
    refine (HciS.out ag cg w2 (HR3.out.get ag lg (by simp))).mono ?_
    rintro e w3 ⟨a4, c5, rfl, hc8, _, hf6, hb7⟩
    have hB9 : Below w.heap.size w w3 := hB2x.out.trans (hb7.mono hB2x.out.size)
    have hB9x := Lib.hid hB9; clear hB9
    have HR10 := Lib.hid (Rows.cons (HR3.out.below hb7) hf6.row)
    clear HR3
    clear hf6 hb7
    go_wp2_with fail
    refine (HcsS.out ag cg w3 (HR10.out.get ag lg (by simp))).mono ?_
    rintro e w4 ⟨a11, c12, rfl, hc15, _, hf13, hb14⟩
    have hB16 : Below w.heap.size w w4 := hB9x.out.trans (hb14.mono hB9x.out.size)
    have hB16x := Lib.hid hB16; clear hB16
    have HR17 := Lib.hid (Rows.cons (HR10.out.below hb14) hf13.row)
    clear HR10
    clear hf13 hb14
    as_aux_lemma =>
    go_wp2_with fail
    refine (drawAreEqualWords a c l w4 (Ha.out.below hB16x.out) Hb.out hsz).mono ?_
    rintro e w5 ⟨h, av, cv, lv, au, cu, lu, rfl, hh0, hh1, hrv, hlv, hcv, hru, hlu, hcu, hb18⟩
    have hB19 : Below w.heap.size w w5 := hB16x.out.trans (hb18.mono hB16x.out.size)
    have hB19x := Lib.hid hB19; clear hB19
    have HR20 := Lib.hid (Rows.cons (HR17.out.below hb18) hrv)
    clear HR17
    have HR21 := Lib.hid (Rows.cons HR20.out hru); clear HR20 hb18 hrv hru
    have fE : decide (Dn.EqualW h lv lu) = true → decide (Dn.EqualW h lu lv) = true ∧ Dn.homW h lu = Dn.homW h lv := fun k => by obtain ⟨h1, h2⟩ := Dn.equalW_symm (of_decide_eq_true k); exact ⟨decide_eq_true h1, h2.symm⟩
    have lHv := Dn.homW_len h lv
    have ciE := fun (q q2 : Option Addr) (d d2 : Nat) (W : World) (k : RowAt W q (intCells lv)) (k2 : RowAt W q2 (intCells lu)) => impl_AreEqualWords h q q2 d d2 lv lu W k k2 (by omega) (by omega)
    have csE := fun (q q2 : Option Addr) (d d2 : Nat) (W : World) (k : RowAt W q (intCells lv)) (k2 : RowAt W q2 (intCells lu)) => spec_AreEqualWords h q q2 d d2 lv lu W k k2 (by omega) (by omega)
    have ciF := fun (q q2 : Option Addr) (d d2 : Nat) (W : World) (k : RowAt W q (intCells lu)) (k2 : RowAt W q2 (intCells lv)) => impl_AreEqualWords h q q2 d d2 lu lv W k k2 (by omega) (by omega)
    have ciHv := fun (q : Option Addr) (d : Nat) (W : World) (k : RowAt W q (intCells lv)) => impl_HomologyOf h q d lv W k (by omega)
    have ciHu := fun (q : Option Addr) (d : Nat) (W : World) (k : RowAt W q (intCells lu)) => impl_HomologyOf h q d lu W k (by omega)
    generalize decide (Dn.EqualW h lv lu) = Eq1 at *
    generalize decide (Dn.EqualW h lu lv) = Eq2 at *
    generalize Dn.homW h lv = Hv at *
    generalize Dn.homW h lu = Hu at *
    have HfE := Lib.hid fE; have HciE := Lib.hid ciE; have HcsE := Lib.hid csE; have HciF := Lib.hid ciF; have HciHv := Lib.hid ciHv; have HciHu := Lib.hid ciHu
    clear fE ciE csE ciF ciHv ciHu
    go_wp2_with fail
    refine (drawCommuteIn a c l w5 (Ha.out.below hB19x.out) Hb.out hsz).mono ?_
    rintro e w6 ⟨a0, ap, cp, lp, aq, cq, lq, rfl, ha0, ha1, hrp, hlp, hcp, hrq, hlq, hcq, hb22⟩
    have hB23 : Below w.heap.size w w6 := hB19x.out.trans (hb22.mono hB19x.out.size)
    have hB23x := Lib.hid hB23; clear hB23
    have HR24 := Lib.hid (Rows.cons (HR21.out.below hb22) hrp)
    clear HR21
    have HR25 := Lib.hid (Rows.cons HR24.out hrq); clear HR24 hb22 hrp hrq
    have ciC := fun (q q2 : Option Addr) (d d2 : Nat) (W : World) (k : RowAt W q (intCells lp)) (k2 : RowAt W q2 (intCells lq)) => impl_CommuteIn a0 q q2 d d2 lp lq W k k2 (by omega) (by omega)
    have csC := fun (q q2 : Option Addr) (d d2 : Nat) (W : World) (k : RowAt W q (intCells lp)) (k2 : RowAt W q2 (intCells lq)) => spec_CommuteIn a0 q q2 d d2 lp lq W k k2 (by omega) (by omega)
    generalize decide (Dn.CommW a0 lp lq) = Cm at *
    have HciC := Lib.hid ciC; have HcsC := Lib.hid csC; clear ciC csC
    go_wp2_with fail
    refine (drawRelator a c l w6 (Ha.out.below hB23x.out) Hb.out hsz).mono ?_
    rintro e w7 ⟨⟨m, rfl, hm0, hm1⟩, hb26⟩
    have hB27 : Below w.heap.size w w7 := hB23x.out.trans (hb26.mono hB23x.out.size)
    have hB27x := Lib.hid hB27; clear hB27
    have HR28 := Lib.hid (HR25.out.below hb26)
    clear HR25
    clear hb26
    have ciL := fun (W : World) => impl_Relator m W; have csL := fun (W : World) => spec_Relator m W
    have lL := Dn.rel_len8 m
    have fL : (Dn.rel m).length ≤ 8 ∧ (¬ (m = 1 ∨ m = 2) → (Dn.rel m).length = 0) := ⟨lL, fun k => by rw [Dn.rel_not (by unfold Dn.Gr; omega)]; rfl⟩
    have fN : (m = 1 ∨ m = 2) → decide (Dn.TrivW m (Dn.rel m)) = true ∧ decide (Dn.CommW m [1] [1, 1]) = true := fun k => rel_facts k
    have ciN := fun (q : Option Addr) (d : Nat) (W : World) (k : RowAt W q (intCells (Dn.rel m))) => impl_IsTrivialWord m q d (Dn.rel m) W k (by omega)
    have ciM := fun (q q2 : Option Addr) (d d2 : Nat) (W : World) (k : RowAt W q (intCells [1])) (k2 : RowAt W q2 (intCells [1, 1])) => impl_CommuteIn m q q2 d d2 [1] [1, 1] W k k2 (by decide) (by decide)
    generalize decide (Dn.TrivW m (Dn.rel m)) = Tn at *
    generalize decide (Dn.CommW m [1] [1, 1]) = Cn at *
    generalize Dn.rel m = Rl at *
    have HciL := Lib.hid ciL; have HcsL := Lib.hid csL; have HfN := Lib.hid fN; have HfL := Lib.hid fL; have HciN := Lib.hid ciN; have HciM := Lib.hid ciM
    clear ciL csL fN fL ciN ciM
    go_wp2_with fail
    refine (HciW.out ag cg w7 (HR28.out.get ag lg (by simp))).mono ?_
    rintro e w8 ⟨a29, c30, rfl, hc33, _, hf31, hb32⟩
    have hB34 : Below w.heap.size w w8 := hB27x.out.trans (hb32.mono hB27x.out.size)
    have hB34x := Lib.hid hB34; clear hB34
    have HR35 := Lib.hid (Rows.cons (HR28.out.below hb32) hf31.row)
    clear HR28
    clear hf31 hb32
    as_aux_lemma =>
    go_wp2_with fail
    refine (sameInts_eq a4 a11 c5 c12 S1 w8 (HR35.out.get a4 S1 (by simp)) (HR35.out.get a11 S1 (by simp)) (Nat.le_trans lS (by decide))).mono ?_
    rintro e w9 ⟨rfl, hb36⟩
    have hB37 : Below w.heap.size w w9 := hB34x.out.trans (hb36.mono hB34x.out.size)
    have hB37x := Lib.hid hB37; clear hB37
    have HR38 := Lib.hid (HR35.out.below hb36)
    clear HR35
    clear hb36
    go_wp2_with fail
    refine (HciE.out av au cv cu w9 (HR38.out.get av lv (by simp)) (HR38.out.get au lu (by simp))).mono ?_
    rintro e w10 ⟨rfl, hb39⟩
    have hB40 : Below w.heap.size w w10 := hB37x.out.trans (hb39.mono hB37x.out.size)
    have hB40x := Lib.hid hB40; clear hB40
    have HR41 := Lib.hid (HR38.out.below hb39)
    clear HR38
    clear hb39
    go_wp2_with fail
    refine (HcsE.out av au cv cu w10 (HR41.out.get av lv (by simp)) (HR41.out.get au lu (by simp))).mono ?_
    rintro e w11 ⟨rfl, hb42⟩
    have hB43 : Below w.heap.size w w11 := hB40x.out.trans (hb42.mono hB40x.out.size)
    have hB43x := Lib.hid hB43; clear hB43
    have HR44 := Lib.hid (HR41.out.below hb42)
    clear HR41
    clear hb42
    go_wp2_with fail
    refine (HciC.out ap aq cp cq w11 (HR44.out.get ap lp (by simp)) (HR44.out.get aq lq (by simp))).mono ?_
    rintro e w12 ⟨rfl, hb45⟩
    have hB46 : Below w.heap.size w w12 := hB43x.out.trans (hb45.mono hB43x.out.size)
    have hB46x := Lib.hid hB46; clear hB46
    have HR47 := Lib.hid (HR44.out.below hb45)
    clear HR44
    clear hb45
    as_aux_lemma =>
    go_wp2_with fail
    refine (HcsC.out ap aq cp cq w12 (HR47.out.get ap lp (by simp)) (HR47.out.get aq lq (by simp))).mono ?_
    rintro e w13 ⟨rfl, hb48⟩
    have hB49 : Below w.heap.size w w13 := hB46x.out.trans (hb48.mono hB46x.out.size)
    have hB49x := Lib.hid hB49; clear hB49
    have HR50 := Lib.hid (HR47.out.below hb48)
    clear HR47
    clear hb48
    go_wp2_with fail
    refine (HciL.out w13).mono ?_
    rintro e w14 ⟨a51, c52, rfl, hc55, _, hf53, hb54⟩
    have hB56 : Below w.heap.size w w14 := hB49x.out.trans (hb54.mono hB49x.out.size)
    have hB56x := Lib.hid hB56; clear hB56
    have HR57 := Lib.hid (Rows.cons (HR50.out.below hb54) hf53.row)
    clear HR50
    clear hf53 hb54
    go_wp2_with fail
    refine (HcsL.out w14).mono ?_
    rintro e w15 ⟨a58, c59, rfl, hc62, _, hf60, hb61⟩
    have hB63 : Below w.heap.size w w15 := hB56x.out.trans (hb61.mono hB56x.out.size)
    have hB63x := Lib.hid hB63; clear hB63
    have HR64 := Lib.hid (Rows.cons (HR57.out.below hb61) hf60.row)
    clear HR57
    clear hf60 hb61
    go_wp2_with fail
    refine (sameInts_eq a51 a58 c52 c59 Rl w15 (HR64.out.get a51 Rl (by simp)) (HR64.out.get a58 Rl (by simp)) (Nat.le_trans HfL.out.1 (by decide))).mono ?_
    rintro e w16 ⟨rfl, hb65⟩
    have hB66 : Below w.heap.size w w16 := hB63x.out.trans (hb65.mono hB63x.out.size)
    have hB66x := Lib.hid hB66; clear hB66
    have HR67 := Lib.hid (HR64.out.below hb65)
    clear HR64
    clear hb65
    as_aux_lemma =>
    go_wp2_with fail
    refine (HcsW.out ag cg w16 (HR67.out.get ag lg (by simp))).mono ?_
    rintro e w17 ⟨a68, c69, rfl, hc72, _, hf70, hb71⟩
    have hB73 : Below w.heap.size w w17 := hB66x.out.trans (hb71.mono hB66x.out.size)
    have hB73x := Lib.hid hB73; clear hB73
    have HR74 := Lib.hid (Rows.cons (HR67.out.below hb71) hf70.row)
    clear HR67
    clear hf70 hb71
    go_wp2_with fail
    refine (sameInts_eq a29 a68 c30 c69 Dw w17 (HR74.out.get a29 Dw (by simp)) (HR74.out.get a68 Dw (by simp)) (Nat.le_trans lW (by decide))).mono ?_
    rintro e w18 ⟨rfl, hb75⟩
    have hB76 : Below w.heap.size w w18 := hB73x.out.trans (hb75.mono hB73x.out.size)
    have hB76x := Lib.hid hB76; clear hB76
    have HR77 := Lib.hid (HR74.out.below hb75)
    clear HR74
    clear hb75
    go_wp2_with fail
    refine (HciT.out ag cg w18 (HR77.out.get ag lg (by simp))).mono ?_
    rintro e w19 ⟨rfl, hb78⟩
    have hB79 : Below w.heap.size w w19 := hB76x.out.trans (hb78.mono hB76x.out.size)
    have hB79x := Lib.hid hB79; clear hB79
    have HR80 := Lib.hid (HR77.out.below hb78)
    clear HR77
    clear hb78
    go_wp2_with fail
    refine (HcsT.out ag cg w19 (HR80.out.get ag lg (by simp))).mono ?_
    rintro e w20 ⟨rfl, hb81⟩
    have hB82 : Below w.heap.size w w20 := hB79x.out.trans (hb81.mono hB79x.out.size)
    have hB82x := Lib.hid hB82; clear hB82
    have HR83 := Lib.hid (HR80.out.below hb81)
    clear HR80
    clear hb81
    as_aux_lemma =>
    go_wp2_with fail
    refine (HciH.out ag cg w20 (HR83.out.get ag lg (by simp))).mono ?_
    rintro e w21 ⟨a84, c85, rfl, hc88, _, hf86, hb87⟩
    have hB89 : Below w.heap.size w w21 := hB82x.out.trans (hb87.mono hB82x.out.size)
    have hB89x := Lib.hid hB89; clear hB89
    have HR90 := Lib.hid (Rows.cons (HR83.out.below hb87) hf86.row)
    clear HR83
    clear hf86 hb87
    go_wp2_with fail
    refine (HcsH.out ag cg w21 (HR90.out.get ag lg (by simp))).mono ?_
    rintro e w22 ⟨a91, c92, rfl, hc95, _, hf93, hb94⟩
    have hB96 : Below w.heap.size w w22 := hB89x.out.trans (hb94.mono hB89x.out.size)
    have hB96x := Lib.hid hB96; clear hB96
    have HR97 := Lib.hid (Rows.cons (HR90.out.below hb94) hf93.row)
    clear HR90
    clear hf93 hb94
    go_wp2_with fail
    refine (sameInts_eq a84 a91 c85 c92 Ho w22 (HR97.out.get a84 Ho (by simp)) (HR97.out.get a91 Ho (by simp)) (Nat.le_trans lH (by decide))).mono ?_
    rintro e w23 ⟨rfl, hb98⟩
    have hB99 : Below w.heap.size w w23 := hB96x.out.trans (hb98.mono hB96x.out.size)
    have hB99x := Lib.hid hB99; clear hB99
    have HR100 := Lib.hid (HR97.out.below hb98)
    clear HR97
    clear hb98
    go_upto_region 12 with fail
    go_cut [138] from 19 (fun sv wx => sv = .bool false ∧ Below w23.heap.size w23 wx)
    case first => as_aux_lemma =>
      have hA101 := Below.refl w23.heap.size w23
      cases Bs with
      | false => as_aux_lemma =>
        go_wp2_with fail
        go_meet
        exact ⟨rfl, hA101⟩
      | true => as_aux_lemma =>
        obtain ⟨hk1, hk2⟩ := HfS.out rfl
        subst hk2
        have dk : decide (Rd.length ≤ S1.length) = false := decide_eq_false (by omega)
        have dki : decide ((Rd.length : Int) ≤ (S1.length : Int)) = false := decide_eq_false (by omega)
        go_wp2_with fail
        refine (HcsR.out ag cg w23 (HR100.out.get ag lg (by simp))).mono ?_
        rintro e w24 ⟨a102, c103, rfl, hc106, _, hf104, hb105⟩
        have hA107 := hA101.trans (hb105.mono hA101.size)
        have hB108 : Below w.heap.size w w24 := hB99x.out.trans (hb105.mono hB99x.out.size)
        have hB108x := Lib.hid hB108; clear hB108
        have HR109 := Lib.hid (Rows.cons (HR100.out.below hb105) hf104.row)
        clear HR100
        clear hf104 hb105
        as_aux_lemma =>
        go_wp2_with fail
        refine (HciX.out a4 c5 w24 (HR109.out.get a4 S1 (by simp))).mono ?_
        rintro e w25 ⟨rfl, hb110⟩
        have hA111 := hA107.trans (hb110.mono hA107.size)
        have hB112 : Below w.heap.size w w25 := hB108x.out.trans (hb110.mono hB108x.out.size)
        have hB112x := Lib.hid hB112; clear hB112
        have HR113 := Lib.hid (HR109.out.below hb110)
        clear HR109
        clear hb110
        go_wp2_with fail
        refine (HciT.out ag cg w25 (HR113.out.get ag lg (by simp))).mono ?_
        rintro e w26 ⟨rfl, hb114⟩
        have hA115 := hA111.trans (hb114.mono hA111.size)
        have hB116 : Below w.heap.size w w26 := hB112x.out.trans (hb114.mono hB112x.out.size)
        have hB116x := Lib.hid hB116; clear hB116
        have HR117 := Lib.hid (HR113.out.below hb114)
        clear HR113
        clear hb114
        go_wp2_with fail
        go_meet
        exact ⟨rfl, hA115⟩
    case rest => as_aux_lemma =>
    obtain ⟨rfl, hb118⟩ := hcut
    obtain ⟨w27, hu0⟩ : ∃ u, u = wc := ⟨_, rfl⟩
    subst hu0
    have hB119 : Below w.heap.size w w27 := hB99x.out.trans (hb118.mono hB99x.out.size)
    have hB119x := Lib.hid hB119; clear hB119
    have HR120 := Lib.hid (HR100.out.below hb118)
    clear HR100
    clear hb118
    go_upto_region 14 with fail
    go_cut [162] from 19 (fun sv wx => sv = .bool false ∧ Below w27.heap.size w27 wx)
    case first => as_aux_lemma =>
      have hA121 := Below.refl w27.heap.size w27
      cases Tv with
      | false => as_aux_lemma =>
        go_wp2_with fail
        refine (HciT.out ag cg w27 (HR120.out.get ag lg (by simp))).mono ?_
        rintro e w28 ⟨rfl, hb122⟩
        have hA123 := hA121.trans (hb122.mono hA121.size)
        have hB124 : Below w.heap.size w w28 := hB119x.out.trans (hb122.mono hB119x.out.size)
        have hB124x := Lib.hid hB124; clear hB124
        have HR125 := Lib.hid (HR120.out.below hb122)
        clear HR120
        clear hb122
        go_wp2_with fail
        go_meet
        exact ⟨rfl, hA123⟩
      | true => as_aux_lemma =>
        obtain ⟨hk1, hk2, hk3⟩ := HfT.out rfl
        subst hk2
        subst hk3
        have Hk1 := Lib.hid hk1; clear hk1
        go_wp2_with fail
        refine (HciT.out ag cg w27 (HR120.out.get ag lg (by simp))).mono ?_
        rintro e w29 ⟨rfl, hb126⟩
        have hA127 := hA121.trans (hb126.mono hA121.size)
        have hB128 : Below w.heap.size w w29 := hB119x.out.trans (hb126.mono hB119x.out.size)
        have hB128x := Lib.hid hB128; clear hB128
        have HR129 := Lib.hid (HR120.out.below hb126)
        clear HR120
        clear hb126
        as_aux_lemma =>
        go_wp2_with fail
        refine (HciH.out ag cg w29 (HR129.out.get ag lg (by simp))).mono ?_
        rintro e w30 ⟨a130, c131, rfl, hc134, _, hf132, hb133⟩
        have hA135 := hA127.trans (hb133.mono hA127.size)
        have hB136 : Below w.heap.size w w30 := hB128x.out.trans (hb133.mono hB128x.out.size)
        have hB136x := Lib.hid hB136; clear hB136
        have HR137 := Lib.hid (Rows.cons (HR129.out.below hb133) hf132.row)
        clear HR129
        clear hf132 hb133
        go_wp2_with fail
        refine (total_zero a130 c131 Ho w30 (HR137.out.get a130 Ho (by simp)) (Nat.le_trans lH (by decide)) Hk1.out).mono ?_
        rintro e w31 ⟨rfl, hb138⟩
        have hA139 := hA135.trans (hb138.mono hA135.size)
        have hB140 : Below w.heap.size w w31 := hB136x.out.trans (hb138.mono hB136x.out.size)
        have hB140x := Lib.hid hB140; clear hB140
        have HR141 := Lib.hid (HR137.out.below hb138)
        clear HR137
        clear hb138
        go_wp2_with fail
        refine (HcsI.out ag cg w31 (HR141.out.get ag lg (by simp))).mono ?_
        rintro e w32 ⟨a142, c143, rfl, hc146, _, hf144, hb145⟩
        have hA147 := hA139.trans (hb145.mono hA139.size)
        have hB148 : Below w.heap.size w w32 := hB140x.out.trans (hb145.mono hB140x.out.size)
        have hB148x := Lib.hid hB148; clear hB148
        have HR149 := Lib.hid (Rows.cons (HR141.out.below hb145) hf144.row)
        clear HR141
        clear hf144 hb145
        go_wp2_with fail
        refine (HciI.out a142 c143 w32 (HR149.out.get a142 Iv (by simp))).mono ?_
        rintro e w33 ⟨rfl, hb150⟩
        have hA151 := hA147.trans (hb150.mono hA147.size)
        have hB152 : Below w.heap.size w w33 := hB148x.out.trans (hb150.mono hB148x.out.size)
        have hB152x := Lib.hid hB152; clear hB152
        have HR153 := Lib.hid (HR149.out.below hb150)
        clear HR149
        clear hb150
        as_aux_lemma =>
        go_wp2_with fail
        refine (HcsU.out ag cg w33 (HR153.out.get ag lg (by simp)) hcg).mono ?_
        rintro e w34 ⟨a154, c155, rfl, hc158, _, hf156, hb157⟩
        have hA159 := hA151.trans (hb157.mono hA151.size)
        have hB160 : Below w.heap.size w w34 := hB152x.out.trans (hb157.mono hB152x.out.size)
        have hB160x := Lib.hid hB160; clear hB160
        have HR161 := Lib.hid (Rows.cons (HR153.out.below hb157) hf156.row)
        clear HR153
        clear hf156 hb157
        go_wp2_with fail
        refine (HciU.out a154 c155 w34 (HR161.out.get a154 Ur (by simp))).mono ?_
        rintro e w35 ⟨rfl, hb162⟩
        have hA163 := hA159.trans (hb162.mono hA159.size)
        have hB164 : Below w.heap.size w w35 := hB160x.out.trans (hb162.mono hB160x.out.size)
        have hB164x := Lib.hid hB164; clear hB164
        have HR165 := Lib.hid (HR161.out.below hb162)
        clear HR161
        clear hb162
        go_wp2_with fail
        go_meet
        exact ⟨rfl, hA163⟩
    case rest => as_aux_lemma =>
    obtain ⟨rfl, hb166⟩ := hcut
    obtain ⟨w36, hu0⟩ : ∃ u, u = wc := ⟨_, rfl⟩
    subst hu0
    have hB167 : Below w.heap.size w w36 := hB119x.out.trans (hb166.mono hB119x.out.size)
    have hB167x := Lib.hid hB167; clear hB167
    have HR168 := Lib.hid (HR120.out.below hb166)
    clear HR120
    clear hb166
    go_upto_region 16 with fail
    go_cut [183] from 19 (fun sv wx => sv = .bool false ∧ Below w36.heap.size w36 wx)
    case first => as_aux_lemma =>
      have hA169 := Below.refl w36.heap.size w36
      cases Eq1 with
      | false => as_aux_lemma =>
        go_wp2_with fail
        refine (HciE.out av au cv cu w36 (HR168.out.get av lv (by simp)) (HR168.out.get au lu (by simp))).mono ?_
        rintro e w37 ⟨rfl, hb170⟩
        have hA171 := hA169.trans (hb170.mono hA169.size)
        have hB172 : Below w.heap.size w w37 := hB167x.out.trans (hb170.mono hB167x.out.size)
        have hB172x := Lib.hid hB172; clear hB172
        have HR173 := Lib.hid (HR168.out.below hb170)
        clear HR168
        clear hb170
        go_wp2_with fail
        go_meet
        exact ⟨rfl, hA171⟩
      | true => as_aux_lemma =>
        obtain ⟨hk1, hk2⟩ := HfE.out rfl
        subst hk1
        subst hk2
        go_wp2_with fail
        refine (HciE.out av au cv cu w36 (HR168.out.get av lv (by simp)) (HR168.out.get au lu (by simp))).mono ?_
        rintro e w38 ⟨rfl, hb174⟩
        have hA175 := hA169.trans (hb174.mono hA169.size)
        have hB176 : Below w.heap.size w w38 := hB167x.out.trans (hb174.mono hB167x.out.size)
        have hB176x := Lib.hid hB176; clear hB176
        have HR177 := Lib.hid (HR168.out.below hb174)
        clear HR168
        clear hb174
        as_aux_lemma =>
        go_wp2_with fail
        refine (HciF.out au av cu cv w38 (HR177.out.get au lu (by simp)) (HR177.out.get av lv (by simp))).mono ?_
        rintro e w39 ⟨rfl, hb178⟩
        have hA179 := hA175.trans (hb178.mono hA175.size)
        have hB180 : Below w.heap.size w w39 := hB176x.out.trans (hb178.mono hB176x.out.size)
        have hB180x := Lib.hid hB180; clear hB180
        have HR181 := Lib.hid (HR177.out.below hb178)
        clear HR177
        clear hb178
        go_wp2_with fail
        refine (HciHv.out av cv w39 (HR181.out.get av lv (by simp))).mono ?_
        rintro e w40 ⟨a182, c183, rfl, hc186, _, hf184, hb185⟩
        have hA187 := hA179.trans (hb185.mono hA179.size)
        have hB188 : Below w.heap.size w w40 := hB180x.out.trans (hb185.mono hB180x.out.size)
        have hB188x := Lib.hid hB188; clear hB188
        have HR189 := Lib.hid (Rows.cons (HR181.out.below hb185) hf184.row)
        clear HR181
        clear hf184 hb185
        go_wp2_with fail
        refine (HciHu.out au cu w40 (HR189.out.get au lu (by simp))).mono ?_
        rintro e w41 ⟨a190, c191, rfl, hc194, _, hf192, hb193⟩
        have hA195 := hA187.trans (hb193.mono hA187.size)
        have hB196 : Below w.heap.size w w41 := hB188x.out.trans (hb193.mono hB188x.out.size)
        have hB196x := Lib.hid hB196; clear hB196
        have HR197 := Lib.hid (Rows.cons (HR189.out.below hb193) hf192.row)
        clear HR189
        clear hf192 hb193
        go_wp2_with fail
        refine (sameInts_eq a182 a190 c183 c191 Hu w41 (HR197.out.get a182 Hu (by simp)) (HR197.out.get a190 Hu (by simp)) (Nat.le_trans lHv (by decide))).mono ?_
        rintro e w42 ⟨rfl, hb198⟩
        have hA199 := hA195.trans (hb198.mono hA195.size)
        have hB200 : Below w.heap.size w w42 := hB196x.out.trans (hb198.mono hB196x.out.size)
        have hB200x := Lib.hid hB200; clear hB200
        have HR201 := Lib.hid (HR197.out.below hb198)
        clear HR197
        clear hb198
        go_wp2_with fail
        go_meet
        exact ⟨rfl, hA199⟩
    case rest => as_aux_lemma =>
    obtain ⟨rfl, hb202⟩ := hcut
    obtain ⟨w43, hu0⟩ : ∃ u, u = wc := ⟨_, rfl⟩
    subst hu0
    have hB203 : Below w.heap.size w w43 := hB167x.out.trans (hb202.mono hB167x.out.size)
    have hB203x := Lib.hid hB203; clear hB203
    have HR204 := Lib.hid (HR168.out.below hb202)
    clear HR168
    clear hb202
    go_upto_region 18 with fail
    go_cut [185] from 19 (fun sv wx => sv = .bool T2 ∧ Below w43.heap.size w43 wx)
    case first => as_aux_lemma =>
      have hA205 := Below.refl w43.heap.size w43
      as_aux_lemma =>
      go_wp2_with fail
      refine (HciT2.out ag cg w43 (HR204.out.get ag lg (by simp))).mono ?_
      rintro e w44 ⟨rfl, hb206⟩
      have hA207 := hA205.trans (hb206.mono hA205.size)
      have hB208 : Below w.heap.size w w44 := hB203x.out.trans (hb206.mono hB203x.out.size)
      have hB208x := Lib.hid hB208; clear hB208
      have HR209 := Lib.hid (HR204.out.below hb206)
      clear HR204
      clear hb206
      go_wp2_with fail
      go_meet
      exact ⟨rfl, hA207⟩
    case rest => as_aux_lemma =>
    obtain ⟨rfl, hb210⟩ := hcut
    obtain ⟨w45, hu0⟩ : ∃ u, u = wc := ⟨_, rfl⟩
    subst hu0
    have hB211 : Below w.heap.size w w45 := hB203x.out.trans (hb210.mono hB203x.out.size)
    have hB211x := Lib.hid hB211; clear hB211
    have HR212 := Lib.hid (HR204.out.below hb210)
    clear HR204
    clear hb210
    go_upto_if 185 with fail
    go_cut [] from 19 (fun wx => Below w45.heap.size w45 wx)
    case first => as_aux_lemma =>
      cases T2 with
      | false => as_aux_lemma =>
        go_wp2
        go_meet
        exact Below.refl _ _
      | true => as_aux_lemma =>
        have hAw := HfA.out rfl
        subst hAw
        have hG0 := acts_grid w45
        obtain ⟨wz, hz1, hz2, hz3⟩ := hG0
        have Hz1 := Lib.hid hz1; have Hz2 := Lib.hid hz2; have Hz3 := Lib.hid hz3; clear hz1 hz2 hz3
        go_wp2_with fail
        rw [← Hz1.out]
        have hA213 := Hz2.out
        have HR214 := Lib.hid (HR212.out.below Hz2.out); clear HR212
        refine (HcsA.out _ ag 4 cg wz Hz3.out (HR214.out.get ag lg (by simp))).mono ?_
        rintro e w46 ⟨a215, c216, rfl, hc219, _, hf217, hb218⟩
        have hA220 := hA213.trans (hb218.mono hA213.size)
        have Hrw := Lib.hid hf217.row; clear hf217 hb218
        have hbl : Below w46.heap.size w46 (w46.alloc (.cells #[.int .i64 0, .int .i64 1, .int .i64 2] 3)) := (Below.refl _ _).alloc (Nat.le_refl _) _
        have hrl : RowAt (w46.alloc (.cells #[.int .i64 0, .int .i64 1, .int .i64 2] 3)) (some ⟨w46.heap.size, 0, none⟩) (intCells [0, 1, 2]) := (Blk.new w46 3 #[.int .i64 0, .int .i64 1, .int .i64 2]).row
        have Hbl := Lib.hid hbl; have Hrl := Lib.hid hrl; clear hbl hrl
        go_wp2_with fail
        refine (sameInts_eq a215 (some ⟨w46.heap.size, 0, none⟩) c216 3 [0, 1, 2] _ (Hrw.out.below Hbl.out) Hrl.out (by decide)).mono ?_
        rintro e w47 ⟨rfl, hb221⟩
        have HF := Lib.hid ((hA220.trans (Hbl.out.mono hA220.size)).trans (hb221.mono (hA220.trans (Hbl.out.mono hA220.size)).size)); clear hb221
        go_wp2_with fail
        go_meet
        exact HF.out
    case rest => as_aux_lemma =>
    have hb222 := hcut; clear hcut
    obtain ⟨w48, hu0⟩ : ∃ u, u = wc := ⟨_, rfl⟩
    subst hu0
    have hB223 : Below w.heap.size w w48 := hB211x.out.trans (hb222.mono hB211x.out.size)
    have hB223x := Lib.hid hB223; clear hB223
    have HR224 := Lib.hid (HR212.out.below hb222)
    clear HR212
    clear hb222
    by_cases hm : m = 1 ∨ m = 2
    · as_aux_lemma =>
      obtain ⟨hn1, hn2⟩ := HfN.out hm
      subst hn1
      subst hn2
      have d1 : ((m == 1) || (m == 2)) = true := by rcases hm with rfl | rfl <;> rfl
      rcases hm with rfl | rfl
      all_goals
        go_wp2_with fail
        refine (HciL.out w48).mono ?_
        rintro e w49 ⟨a225, c226, rfl, hc229, _, hf227, hb228⟩
        have hB230 : Below w.heap.size w w49 := hB223x.out.trans (hb228.mono hB223x.out.size)
        have hB230x := Lib.hid hB230; clear hB230
        have HR231 := Lib.hid (Rows.cons (HR224.out.below hb228) hf227.row)
        clear HR224
        clear hf227 hb228
        go_wp2_with fail
        refine (HciN.out a225 c226 w49 (HR231.out.get a225 Rl (by simp))).mono ?_
        rintro e w50 ⟨rfl, hb232⟩
        have hB233 : Below w.heap.size w w50 := hB230x.out.trans (hb232.mono hB230x.out.size)
        have hB233x := Lib.hid hB233; clear hB233
        have HR234 := Lib.hid (HR231.out.below hb232)
        clear HR231
        clear hb232
        have Hl1 := Lib.hid (show RowAt ((w50.alloc (.cells #[.int .i64 1] 3)).alloc (.cells #[.int .i64 1, .int .i64 1] 3)) (some ⟨w50.heap.size, 0, none⟩) (intCells [1]) from ((Blk.new w50 3 #[.int .i64 1]).row).below ((Below.refl _ _).alloc (Nat.le_refl _) _))
        have Hl2 := Lib.hid (show RowAt ((w50.alloc (.cells #[.int .i64 1] 3)).alloc (.cells #[.int .i64 1, .int .i64 1] 3)) (some ⟨w50.heap.size + 1, 0, none⟩) (intCells [1, 1]) from by have h := (Blk.new (w50.alloc (.cells #[.int .i64 1] 3)) 3 #[.int .i64 1, .int .i64 1]).row; rw [show (w50.alloc (.cells #[.int .i64 1] 3)).heap.size = w50.heap.size + 1 from by simp] at h; exact h)
        have Hbl := Lib.hid (show Below w50.heap.size w50 ((w50.alloc (.cells #[.int .i64 1] 3)).alloc (.cells #[.int .i64 1, .int .i64 1] 3)) from ((Below.refl _ _).alloc (Nat.le_refl _) _).alloc (by simp) _)
        go_wp2_with fail
        refine (HciM.out (some ⟨w50.heap.size, 0, none⟩) (some ⟨w50.heap.size + 1, 0, none⟩) 1 2 _ Hl1.out Hl2.out).mono ?_
        rintro e w51 ⟨rfl, hb235⟩
        have HF := Lib.hid ((hB233x.out.trans (Hbl.out.mono hB233x.out.size)).trans (hb235.mono (hB233x.out.trans (Hbl.out.mono hB233x.out.size)).size)); clear hb235
        go_wp2
        go_ret
        exact ⟨rfl, HF.out⟩
    · as_aux_lemma =>
      have hl0 := HfL.out.2 hm
      have t1 : (m == 1) = false := beq_eq_false_iff_ne.2 (fun h => hm (Or.inl h))
      have t2 : (m == 2) = false := beq_eq_false_iff_ne.2 (fun h => hm (Or.inr h))
      obtain rfl := List.eq_nil_of_length_eq_zero hl0
      clear hm hl0
      go_wp2_with fail
      refine (HciL.out w48).mono ?_
      rintro e w52 ⟨a236, c237, rfl, hc240, _, hf238, hb239⟩
      have hB241 : Below w.heap.size w w52 := hB223x.out.trans (hb239.mono hB223x.out.size)
      have hB241x := Lib.hid hB241; clear hB241
      have HR242 := Lib.hid (Rows.cons (HR224.out.below hb239) hf238.row)
      clear HR224
      clear hf238 hb239
      go_wp2
      go_ret
      exact ⟨rfl, hB241x.out⟩

set_option maxRecDepth 100000 in
theorem contract (H : Type) (enc : TypeId × Value → H) (W : World) (base : Nat) (args : Array Value) (ds gs : List (DataW H)) (before : List MemPlace)
    (hval : ∀ (j : Nat) t v, Try.f4.params[j]? = some t → args[j]? = some v → Value.okWide Try.prog W .any base t v)
    (hW : DataW.Whole enc Try.prog Try.f4.params.toList Rows.fnGroupsSpec.vars false W args.toList ds gs before) :
    Calls Try.prog 4 args W fun e W' => ∃ v, e = .returned v ∧ Rows.fnGroupsSpec.post enc Try.prog Try.f4 false true false false W args v W' := by
  have hW' := hW
  obtain ⟨p, q, hA0, hV, rfl, hfz, hnd⟩ := hW
  have hA : DataW.TrodAll enc Try.prog W 0 (fun _ => true) true Try.f4.params.toList args.toList ds p := hA0
  rw [Try.params4] at hA hval
  obtain ⟨v0, vs0, d0, ds0, p0, q0, hargs, rfl, rfl, h0, r0⟩ := trodAll_cons hA
  obtain ⟨rfl, rfl, rfl⟩ := trodAll_nil r0
  obtain rfl : args = #[v0] := by cases args; simp_all
  obtain ⟨rfl, rfl⟩ := trodVars_none hV
  have k0 := h0
  obtain ⟨acode, ccode, lcode, rfl, wcode⟩ := Read.bytes_of (hval 0 22 v0 rfl rfl) h0
  clear hA0
  simp only [List.append_nil] at hW'
  refine (law acode ccode lcode W wcode).mono fun e W' ⟨he, hg⟩ => ?_
  subst he
  exact ⟨_, rfl, post_of_below (pv := []) hW' (fun _ _ _ => trodAll_cons_mk (shut_bool Try.underlying4 _) trodAll_mk0)
    (fun sp hs => trodAll_cons_mk (trod_keeps (t := 22) (by kernel_rfl) (by kernel_rfl) (by kernel_rfl) k0 hg (fun x hx => hW'.lt x (by simp_all)) (fun x hx => hs x (by simp_all))) (trodAll_mk0))
    (fun _ _ => rfl) (by simp) hg (ok_one (by kernel_rfl) rfl (okWide_bool_mk Try.underlying4 _))⟩

theorem reads (os : Os) {H : Type} (enc : TypeId × Value → H) : ∃ places, DataW.whole enc Try.prog ((World.holding Try.prog os ⟨#[], #[], []⟩).forCall (fun _ _ => 0) ⟨#[], #[.slice none 0 0], []⟩).memory Try.f4.params.toList Rows.fnGroupsSpec.vars false (#[.slice none 0 0] : Array Value).toList 8 = some ([.nil], [], places) :=
  ⟨[], by kernel_rfl⟩

set_option maxRecDepth 100000 in
theorem lifted (os : Os) (started : os.Started) (H : Type) (enc : TypeId × Value → H) (F : Stop.Interp) :
    ReturnsInHanded {} Try.checked os 4 .any ((OpenSpec.ofChange Rows.fnGroupsSpec).preRow enc Try.prog Try.f4 Rows.fnGroupsRow.domain false Rows.fnGroupsRow.laid) (((OpenSpec.ofChange Rows.fnGroupsSpec).at F).post enc Try.prog Try.f4 false true false false) := by
  obtain ⟨places, hx⟩ := reads os enc
  refine returnsInHanded_of_row (C := Try.checked) (s := OpenSpec.ofChange Rows.fnGroupsSpec) Low.own started (by kernel_rfl) Try.func4
    (witness_row_at (enc := enc) (C := Try.checked) false (World.holding Try.prog os ⟨#[], #[], []⟩) #[.slice none 0 0] rfl (by kernel_rfl) (by kernel_rfl) (by kernel_rfl)
      (OpenSpec.preRow_of_cond 8 hx (by kernel_rfl) (fun k hk => by cases hk) (by kernel_rfl) (laidMet_nil _ _))) ?_
  intro W base args ds gs before hval hW _ _ _ hL hShaped _
  exact contract H enc W base args ds gs before hval hW 

theorem said : Rows.FnGroupsSaid :=
  OpenClaim.holds_of_cond 4 Try.f4 rfl rfl rfl rfl rfl rfl rfl ⟨rfl, rfl, rfl, rfl, rfl⟩ rfl rfl rfl rfl rfl (by kernel_rfl) Try.func4 (by kernel_rfl)
    (of_decide_eq_true (by kernel_rfl)) (by unfold Func.isWrapper; first | (rw [if_pos (by decide +kernel)]; kernel_rfl) | (rw [if_neg (by decide +kernel)]; exact ⟨rfl, rfl⟩))
    (fun os started H enc _ F => by rw [OpenClaim.pre_eq_preRow]; exact lifted os started H enc F)
end Go.Proofs.Ytfaagbmaekoogaa.fnGroups
