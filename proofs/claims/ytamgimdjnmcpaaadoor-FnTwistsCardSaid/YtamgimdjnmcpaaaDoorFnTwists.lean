/-
  For every draw: the program's classes, twists and tables are the model's, the form is antisymmetric, twists keep it and are undone, small classes commute or braid as their form tells, and the table of a twist does what the twist does.
-/
import Derived.Test.YtamgimdjnmcpaaaDoorCards
import Derived.Test.YtamgimdjnmcpaaaDoorTie
import Derived.Test.YtamgimdjnmcpaaaDoorBase
import Derived.Test.YtamgimdjnmcpaaaDoorLow
import Derived.Test.YtamgimdjnmcpaaaDoorDoorLow
import Derived.Test.YtamgimdjnmcpaaaDoorSlice
import Derived.Test.YtamgimdjnmcpaaaDoorIntRow
import Derived.Test.YtamgimdjnmcpaaaDoorInts
import Derived.Test.YtamgimdjnmcpaaaDoorOwn
import Derived.Test.YtamgimdjnmcpaaaDoorGrid
import Derived.Test.YtamgimdjnmcpaaaDoorGridRows
import Derived.Test.YtamgimdjnmcpaaaDoorGivesRows
import Derived.Test.YtamgimdjnmcpaaaDoorDraw
import Derived.Test.YtamgimdjnmcpaaaDoorTw
import Derived.Test.YtamgimdjnmcpaaaDoorTwErr
import Derived.Test.YtamgimdjnmcpaaaDoorTwA
import Derived.Test.YtamgimdjnmcpaaaDoorTwB
import Derived.Test.YtamgimdjnmcpaaaDoorTwC
import Derived.Test.YtamgimdjnmcpaaaDoorTwD
import Derived.Test.YtamgimdjnmcpaaaDoorTwE
import Derived.Test.YtamgimdjnmcpaaaDoorTwF
import Derived.Test.YtamgimdjnmcpaaaDoorTwG
import Derived.Test.YtamgimdjnmcpaaaDoorTwS
import Derived.Test.YtamgimdjnmcpaaaDoorTwT
import Derived.Test.YtamgimdjnmcpaaaDoorTwU
import Derived.Test.YtamgimdjnmcpaaaDoorTwV
import Derived.Test.YtamgimdjnmcpaaaDoorDrawTw
import Derived.Deep.DeepWitnessRowRef
import Derived.OpenShut
import Derived.Deep.DeepHandedRow
import Derived.LaidMore
import Derived.Stop.LaidErr
namespace Go.Proofs.YtamgimdjnmcpaaaDoor.fnTwists
open Go.ChangeShapes Go.WideShapes Go.ChangeAt Go.RowKit Go.Sort
open Go.ChangeMaps (open_string)

set_option linter.unusedVariables false
set_option linter.unusedSimpArgs false
def Done (w : World) (e : Ending) (w' : World) : Prop := e = .returned (.bool true) ∧ Below w.heap.size w w'
def Grids (w : World) (gs : List (Option Addr × List (List Int))) : Prop := ∀ a L, (a, L) ∈ gs → GridAt w a L
theorem Grids.nil (w : World) : Grids w [] := fun _ _ h => by cases h
theorem Grids.below {w w' : World} {gs : List (Option Addr × List (List Int))} (h : Grids w gs) (hb : Below w.heap.size w w') : Grids w' gs := fun a L hm => (h a L hm).below hb
theorem Grids.cons {w : World} {gs : List (Option Addr × List (List Int))} (h : Grids w gs) {a : Option Addr} {L : List (List Int)} (hg : GridAt w a L) : Grids w ((a, L) :: gs) := fun b M hm => by
  rcases List.mem_cons.1 hm with e | hm
  · cases e; exact hg
  · exact h b M hm
theorem few_tot {T : List (List Int)} (h : Tw.Few T) : tot T ≤ 1048576 := by
  have hs : ∀ M : List (List Int), (∀ r ∈ M, r.length ≤ 6) → sumLen M ≤ 6 * M.length := by
    intro M
    induction M with
    | nil => intro _; simp [sumLen]
    | cons r M ih =>
      intro h
      have h1 := h r (List.mem_cons_self ..)
      have h2 := ih fun q hq => h q (List.mem_cons_of_mem _ hq)
      have e : sumLen (r :: M) = r.length + sumLen M := by simp [sumLen]
      rw [e, List.length_cons]; omega
  have := hs T h.2
  have := h.1
  unfold tot; omega
theorem twist_six (g : Int) (c x : List Int) (k : Int) : (Tw.twist g c x k).length ≤ 6 := by
  by_cases h : Tw.TwOk g c x k
  · rw [Tw.twist_len (decide_eq_true h)]; exact h.1.2.len.1
  · rw [Tw.twist_none h]; simp
theorem apply_six (T : List (List Int)) (x : List Int) : (Tw.apply T x).length ≤ 6 := by
  by_cases h : Tw.AppOk T x
  · rw [Tw.apply_len (decide_eq_true h)]; exact h.1.1.1.2
  · rw [Tw.apply_none h]; simp
theorem form_neg (g : Int) (x y : List Int) : Tw.formOf g x y = - Tw.formOf g y x := by
  by_cases h : Tw.IsC g x ∧ Tw.IsC g y
  · rw [Tw.formOf_of h.1 h.2, Tw.formOf_of h.2 h.1]
    have := h.1.len; have := h.2.len
    exact Tw.form_swap (by omega)
  · have h1 : Tw.formOf g x y = 0 := if_neg h
    have h2 : Tw.formOf g y x = 0 := if_neg fun h' => h ⟨h'.2, h'.1⟩
    rw [h1, h2]; rfl
theorem form_small (g : Int) (x y : List Int) : -6000000 ≤ Tw.formOf g x y ∧ Tw.formOf g x y ≤ 6000000 := by
  by_cases h : Tw.IsC g x ∧ Tw.IsC g y
  · rw [Tw.formOf_of h.1 h.2]; exact Tw.form_bound h.1 h.2
  · rw [show Tw.formOf g x y = 0 from if_neg h]; omega
theorem sym_law {g : Int} {x : List Int} (h : decide (Tw.MatOk g x) = true) : decide (Tw.IsSym g (Tw.mat g x)) = true := decide_eq_true (Tw.mat_sym (of_decide_eq_true h))
/-- A twisted class keeps the form; the twist back undoes it. -/
theorem twist_law {g k : Int} {c z : List Int} (h : decide (Tw.TwOk g c z k) = true) : Tw.formOf g c (Tw.twist g c z k) = Tw.formOf g c z ∧ (decide (Tw.TwOk g c (Tw.twist g c z k) (-k)) = true → Tw.twist g c (Tw.twist g c z k) (-k) = z) := by
  have hok := of_decide_eq_true h
  have l1 := hok.1.1.len; have l2 := hok.1.2.len
  rw [Tw.twist_of hok]
  have hT : Tw.IsC g (Tw.tw c z (k * Tw.form c z)) := ⟨hok.1.2.1, by rw [Tw.tw_len]; exact hok.1.2.2.1, hok.2.2⟩
  refine ⟨?_, fun h2 => ?_⟩
  · rw [Tw.formOf_of hok.1.1 hT, Tw.formOf_of hok.1.1 hok.1.2, Tw.form_lin (by omega), Tw.form_self]; simp
  · rw [Tw.twist_of (of_decide_eq_true h2)]
    exact Tw.tw_back (by omega)
/-- What the law asks of small classes. -/
theorem small_law {g : Int} {x y : List Int} (cx : Tw.IsC g x) (cy : Tw.IsC g y) (sx : Tw.Small x) (sy : Tw.Small y) :
    (Tw.formOf g x y = 0 → decide (Tw.Comm g x y) = true) ∧ (Tw.formOf g x y = 1 ∨ Tw.formOf g x y = -1 → decide (Tw.Braid g x y) = true) ∧ (decide (Tw.TwOk g x y 1) = true → decide (Tw.AppOk (Tw.mat g x) y) = true ∧ Tw.apply (Tw.mat g x) y = Tw.twist g x y 1) := by
  rw [Tw.formOf_of cx cy]
  have l1 := cx.len; have l2 := cy.len
  refine ⟨fun h => decide_eq_true (Tw.comm_small cx cy sx sy h), fun h => decide_eq_true (Tw.braid_small cx cy sx sy h), fun h => ?_⟩
  have hok := of_decide_eq_true h
  have hm := Tw.small_mat cx sx
  have ha : Tw.app (Tw.mat g x) y = Tw.tw x y (1 * Tw.form x y) := by
    rw [Tw.app_mat hm (by omega)]; unfold Tw.R; rw [Int.one_mul]
  have hA : Tw.AppOk (Tw.mat g x) y := ⟨⟨hm.isT.1, by rw [hm.isT.2]; omega, cy.2.2⟩, by rw [ha]; exact hok.2.2⟩
  exact ⟨decide_eq_true hA, by rw [show Tw.apply (Tw.mat g x) y = _ from if_pos hA, ha, Tw.twist_of hok]⟩
set_option maxRecDepth 10000 in
theorem magnitude (x : Int) (w : World) (h0 : -1001 ≤ x) (h1 : x ≤ 1001) : Calls Tryd.prog 40 #[.int .i64 x] w fun e w' => e = .returned (.int .i64 (x.natAbs : Int)) ∧ w' = w := by
  by_cases h : x < 0
  · have e1 : IntKind.i64.wrap (-x) = -x := wrap_small (by omega) (by omega)
    have hv : (x.natAbs : Int) = -x := by omega
    rw [hv]
    go_enter Tryd.func40, Tryd.ntmps40
    go_wp2
    go_ret
    exact ⟨rfl, rfl⟩
  · have hv : (x.natAbs : Int) = x := by omega
    rw [hv]
    go_enter Tryd.func40, Tryd.ntmps40
    go_wp2
    go_ret
    exact ⟨rfl, rfl⟩

set_option maxRecDepth 100000 in
set_option maxHeartbeats 16000000 in
theorem law (a : Option Addr) (c : Nat) (l : List Int) (w : World) (hh : RowAt w a (byteCells l) ∧ l.length ≤ maxLen ∧ ∀ x ∈ l, 0 ≤ x ∧ x ≤ 255) (hE : Errs w) :
    Calls Tryd.prog 3 #[.slice a l.length c] w (Done w) := by
  obtain ⟨ha, hl, hb⟩ := hh
  unfold maxLen at hl
  have Hb := Lib.hid hb; have Ha := Lib.hid ha; have HE := Lib.hid hE
  clear hb ha hE
  by_cases hbig : 1048576 < l.length
  · have hd : decide (1048576 < l.length) = true := by simpa using hbig
    go_enter Tryd.func3, Tryd.ntmps3
    go_wp2_with fail
    refine (big a l.length c w (by omega)).mono ?_
    rintro e w' ⟨rfl, rfl⟩
    go_wp2
    go_ret
    exact ⟨rfl, Below.refl _ _⟩
  · have hd : decide (1048576 < l.length) = false := by simpa using hbig
    have hsz : l.length ≤ 1048576 := by omega
    have hB0 := Below.refl w.heap.size w
    have HR0 := Lib.hid (Rows.nil w)
    have HG0 := Lib.hid (Grids.nil w)
    go_enter Tryd.func3, Tryd.ntmps3
    go_wp2_with fail
    refine (big a l.length c w (by omega)).mono ?_
    rintro e w' ⟨rfl, rfl⟩
    go_wp2_with fail
    refine (drawFormOf a c l w (Ha.out.below hB0) Hb.out hsz).mono ?_
    rintro e w2 ⟨G, ax, cx, x, ay, cy, y, rfl, hrx, hry, hG, hlxy, hFxy, hb1⟩
    have hB2x := Lib.hid (hB0.trans (hb1.mono hB0.size))
    have HG3 := Lib.hid (HG0.out.below hb1); clear HG0
    have HR4 := Lib.hid (Rows.cons (Rows.cons (HR0.out.below hb1) hrx) hry); clear HR0
    have HlX := Lib.hid hlxy; have HF := Lib.hid hFxy; clear hrx hry hb1 hG hlxy hFxy
    have lx : x.length ≤ 1048576 := by have := HlX.out; omega
    have ly : y.length ≤ 1048576 := by have := HlX.out; omega
    go_wp2_with fail
    refine (drawTwistClass a c l w2 (Ha.out.below hB2x.out) Hb.out hsz).mono ?_
    rintro e w3 ⟨H, ac, cc, C, az, cz, Z, K, rfl, hrc, hrz, hH, hlcz, hFcz, hK, hb5⟩
    have hB6x := Lib.hid (hB2x.out.trans (hb5.mono hB2x.out.size))
    have HG7 := Lib.hid (HG3.out.below hb5); clear HG3
    have HR8 := Lib.hid (Rows.cons (Rows.cons (HR4.out.below hb5) hrc) hrz); clear HR4
    have HlC := Lib.hid hlcz; clear hrc hrz hb5 hH hlcz hFcz
    have lC : C.length ≤ 1048576 := by have := HlC.out; omega
    have lZ : Z.length ≤ 1048576 := by have := HlC.out; omega
    have iT := Lib.hid (fun (W : World) (q : Errs W) (k : RowAt W ac (intCells C)) (k2 : RowAt W az (intCells Z)) => impl_TwistClass H ac cc C az cz Z K W q k lC k2 lZ)
    have sT := Lib.hid (fun (W : World) (k : RowAt W ac (intCells C)) (k2 : RowAt W az (intCells Z)) => spec_TwistClass H ac cc C az cz Z K W k lC k2 lZ)
    have fT := fun (h : decide (Tw.TwOk H C Z K) = true) => twist_law h
    have tl := twist_six H C Z K
    have iTB := Lib.hid (fun (W : World) (q : Errs W) (aT : Option Addr) (cT : Nat) (k : RowAt W ac (intCells C)) (k2 : RowAt W aT (intCells (Tw.twist H C Z K))) => impl_TwistClass H ac cc C aT cT (Tw.twist H C Z K) (-K) W q k lC k2 (by have := twist_six H C Z K; omega))
    have iF1 := Lib.hid (fun (W : World) (q : Errs W) (aT : Option Addr) (cT : Nat) (k : RowAt W ac (intCells C)) (k2 : RowAt W aT (intCells (Tw.twist H C Z K))) => impl_FormOf H ac cc C aT cT (Tw.twist H C Z K) W q k lC k2 (by have := twist_six H C Z K; omega))
    have iF2 := Lib.hid (fun (W : World) (q : Errs W) (k : RowAt W ac (intCells C)) (k2 : RowAt W az (intCells Z)) => impl_FormOf H ac cc C az cz Z W q k lC k2 lZ)
    have iM := Lib.hid (fun (W : World) (q : Errs W) (k : RowAt W ax (intCells x)) => impl_TwistMatrix G ax cx x W q k lx)
    have sM := Lib.hid (fun (W : World) (k : RowAt W ax (intCells x)) => spec_TwistMatrix G ax cx x W k lx)
    have mf := Tw.mat_few G x
    have fS := fun (h : decide (Tw.MatOk G x) = true) => sym_law h
    have iSM := Lib.hid (fun (W : World) (q : Errs W) (aM : Option Addr) (cM : Nat) (k : GridAt W aM (Tw.mat G x)) => impl_IsSymplectic G aM cM (Tw.mat G x) W q k (Tw.mat_few G x).rows.1 (Tw.mat_few G x).rows.2)
    have iAM := Lib.hid (fun (W : World) (q : Errs W) (aM : Option Addr) (cM : Nat) (k : GridAt W aM (Tw.mat G x)) (k2 : RowAt W ay (intCells y)) => impl_ApplyTable aM cM (Tw.mat G x) ay cy y W q k (Tw.mat_few G x).rows.1 (Tw.mat_few G x).rows.2 k2 ly)
    have iFo := Lib.hid (fun (W : World) (q : Errs W) (k : RowAt W ax (intCells x)) (k2 : RowAt W ay (intCells y)) => impl_FormOf G ax cx x ay cy y W q k lx k2 ly)
    have sFo := Lib.hid (fun (W : World) (k : RowAt W ax (intCells x)) (k2 : RowAt W ay (intCells y)) => spec_FormOf G ax cx x ay cy y W k lx k2 ly)
    have iFy := Lib.hid (fun (W : World) (q : Errs W) (k : RowAt W ax (intCells x)) (k2 : RowAt W ay (intCells y)) => impl_FormOf G ay cy y ax cx x W q k2 ly k lx)
    have iC := Lib.hid (fun (W : World) (q : Errs W) (k : RowAt W ax (intCells x)) => impl_IsClass G ax cx x W q k lx)
    have sC := Lib.hid (fun (W : World) (k : RowAt W ax (intCells x)) => spec_IsClass G ax cx x W k lx)
    have sCy := Lib.hid (fun (W : World) (k : RowAt W ay (intCells y)) => spec_IsClass G ay cy y W k ly)
    have iP := Lib.hid (fun (W : World) (q : Errs W) (k : RowAt W ax (intCells x)) => impl_IsPrimitiveClass G ax cx x W q k lx)
    have sP := Lib.hid (fun (W : World) (k : RowAt W ax (intCells x)) => spec_IsPrimitiveClass G ax cx x W k lx)
    have iB := Lib.hid (fun (W : World) (q : Errs W) (k : RowAt W ax (intCells x)) (k2 : RowAt W ay (intCells y)) => impl_BraidHolds G ax cx x ay cy y W q k lx k2 ly)
    have sB := Lib.hid (fun (W : World) (k : RowAt W ax (intCells x)) (k2 : RowAt W ay (intCells y)) => spec_BraidHolds G ax cx x ay cy y W k lx k2 ly)
    have iK := Lib.hid (fun (W : World) (q : Errs W) (k : RowAt W ax (intCells x)) (k2 : RowAt W ay (intCells y)) => impl_CommuteHolds G ax cx x ay cy y W q k lx k2 ly)
    have sK := Lib.hid (fun (W : World) (k : RowAt W ax (intCells x)) (k2 : RowAt W ay (intCells y)) => spec_CommuteHolds G ax cx x ay cy y W k lx k2 ly)
    have iT1 := Lib.hid (fun (W : World) (q : Errs W) (k : RowAt W ax (intCells x)) (k2 : RowAt W ay (intCells y)) => impl_TwistClass G ax cx x ay cy y 1 W q k lx k2 ly)
    have t1l := twist_six G x y 1
    have apl := apply_six (Tw.mat G x) y
    have fN := form_neg G x y
    have fb := form_small G y x
    have fL := fun (cx : Tw.IsC G x) (cy : Tw.IsC G y) (sx : Tw.Small x) (sy : Tw.Small y) => small_law cx cy sx sy
    generalize decide (Tw.TwOk H C Z K) = OK at *
    generalize decide (Tw.TwOk H C (Tw.twist H C Z K) (-K)) = FO at *
    generalize Tw.twist H C (Tw.twist H C Z K) (-K) = BK at *
    generalize Tw.formOf H C (Tw.twist H C Z K) = F1 at *
    generalize Tw.formOf H C Z = F2 at *
    generalize Tw.twist H C Z K = TW at *
    generalize decide (Tw.IsSym G (Tw.mat G x)) = SM at *
    generalize decide (Tw.AppOk (Tw.mat G x) y) = GO at *
    generalize Tw.apply (Tw.mat G x) y = UU at *
    generalize decide (Tw.MatOk G x) = MO at *
    generalize Tw.mat G x = MX at *
    generalize Tw.formOf G x y = F at *
    generalize Tw.formOf G y x = FY at *
    generalize decide (Tw.Prim G x) = PR at *
    generalize decide (Tw.Braid G x y) = BR at *
    generalize decide (Tw.Comm G x y) = CO at *
    generalize decide (Tw.TwOk G x y 1) = FI at *
    generalize Tw.twist G x y 1 = T1 at *
    obtain ⟨CX, hCX⟩ : ∃ v, decide (Tw.IsC G x) = v := ⟨_, rfl⟩
    obtain ⟨CY, hCY⟩ : ∃ v, decide (Tw.IsC G y) = v := ⟨_, rfl⟩
    simp only [hCX] at iC sC
    simp only [hCY] at sCy
    have HfT := Lib.hid fT; have Htl := Lib.hid tl; have Hmf := Lib.hid mf; have HfS := Lib.hid fS; have Ht1l := Lib.hid t1l; have Hapl := Lib.hid apl; have HfN := Lib.hid fN; have Hfb := Lib.hid fb; have HfL := Lib.hid fL; have HhCX := Lib.hid hCX; have HhCY := Lib.hid hCY; have HhK := Lib.hid hK
    clear fT tl mf fS t1l apl fN fb fL hCX hCY hK
    go_wp2_with fail
    refine (iT.out w3 (HE.out.keeps hB6x.out) (HR8.out.get ac C (by simp)) (HR8.out.get az Z (by simp))).mono ?_
    rintro e w4 ⟨a9, c10, rfl, _, _, hf11, hb12⟩
    have hB13x := Lib.hid (hB6x.out.trans (hb12.mono hB6x.out.size))
    have HG14 := Lib.hid (HG7.out.below hb12); clear HG7
    have HR15 := Lib.hid (Rows.cons (HR8.out.below hb12) hf11.row); clear HR8
    clear hf11 hb12
    as_aux_lemma =>
    go_wp2_with fail
    refine (sT.out w4 (HR15.out.get ac C (by simp)) (HR15.out.get az Z (by simp))).mono ?_
    rintro e w5 ⟨a16, c17, rfl, _, _, hf18, hb19⟩
    have hB20x := Lib.hid (hB13x.out.trans (hb19.mono hB13x.out.size))
    have HG21 := Lib.hid (HG14.out.below hb19); clear HG14
    have HR22 := Lib.hid (Rows.cons (HR15.out.below hb19) hf18.row); clear HR15
    clear hf18 hb19
    go_wp2_with fail
    refine (iM.out w5 (HE.out.keeps hB20x.out) (HR22.out.get ax x (by simp))).mono ?_
    rintro e w6 ⟨a23, c24, rfl, _, _, hg25, hb26⟩
    have hB27x := Lib.hid (hB20x.out.trans (hb26.mono hB20x.out.size))
    have HG28 := Lib.hid (Grids.cons (HG21.out.below hb26) hg25.grid); clear HG21
    have HR29 := Lib.hid (HR22.out.below hb26); clear HR22
    clear hg25 hb26
    go_wp2_with fail
    refine (sM.out w6 (HR29.out.get ax x (by simp))).mono ?_
    rintro e w7 ⟨a30, c31, rfl, _, _, hg32, hb33⟩
    have hB34x := Lib.hid (hB27x.out.trans (hb33.mono hB27x.out.size))
    have HG35 := Lib.hid (Grids.cons (HG28.out.below hb33) hg32.grid); clear HG28
    have HR36 := Lib.hid (HR29.out.below hb33); clear HR29
    clear hg32 hb33
    go_wp2_with fail
    refine (drawApplyTable a c l w7 (Ha.out.below hB34x.out) Hb.out hsz).mono ?_
    rintro e w8 ⟨aA, cA, A, av, cv, vv, rfl, hgA, hrv, hAf, hvl, hb37⟩
    have hB38x := Lib.hid (hB34x.out.trans (hb37.mono hB34x.out.size))
    have HG39 := Lib.hid (Grids.cons (HG35.out.below hb37) hgA); clear HG35
    have HR40 := Lib.hid (Rows.cons (HR36.out.below hb37) hrv); clear HR36
    have HAf := Lib.hid hAf; have Hvl := Lib.hid hvl; clear hgA hrv hb37 hAf hvl
    have iA := Lib.hid (fun (W : World) (q : Errs W) (k : GridAt W aA A) (k2 : RowAt W av (intCells vv)) => impl_ApplyTable aA cA A av cv vv W q k HAf.out.rows.1 HAf.out.rows.2 k2 (by have := Hvl.out; omega))
    have sA := Lib.hid (fun (W : World) (k : GridAt W aA A) (k2 : RowAt W av (intCells vv)) => spec_ApplyTable aA cA A av cv vv W k HAf.out.rows.1 HAf.out.rows.2 k2 (by have := Hvl.out; omega))
    have al := apply_six A vv
    generalize decide (Tw.AppOk A vv) = AO at *
    generalize Tw.apply A vv = AP at *
    have Hal := Lib.hid al; clear al
    as_aux_lemma =>
    go_wp2_with fail
    refine (iA.out w8 (HE.out.keeps hB38x.out) (HG39.out aA A (by simp)) (HR40.out.get av vv (by simp))).mono ?_
    rintro e w9 ⟨a41, c42, rfl, _, _, hf43, hb44⟩
    have hB45x := Lib.hid (hB38x.out.trans (hb44.mono hB38x.out.size))
    have HG46 := Lib.hid (HG39.out.below hb44); clear HG39
    have HR47 := Lib.hid (Rows.cons (HR40.out.below hb44) hf43.row); clear HR40
    clear hf43 hb44
    go_wp2_with fail
    refine (sA.out w9 (HG46.out aA A (by simp)) (HR47.out.get av vv (by simp))).mono ?_
    rintro e w10 ⟨a48, c49, rfl, _, _, hf50, hb51⟩
    have hB52x := Lib.hid (hB45x.out.trans (hb51.mono hB45x.out.size))
    have HG53 := Lib.hid (HG46.out.below hb51); clear HG46
    have HR54 := Lib.hid (Rows.cons (HR47.out.below hb51) hf50.row); clear HR47
    clear hf50 hb51
    go_wp2_with fail
    refine (drawTimesTable a c l w10 (Ha.out.below hB52x.out) Hb.out hsz).mono ?_
    rintro e w11 ⟨aP, cP, P, aQ, cQ, Q, rfl, hgP, hgQ, hPf, hQf, hb55⟩
    have hB56x := Lib.hid (hB52x.out.trans (hb55.mono hB52x.out.size))
    have HG57 := Lib.hid (Grids.cons (Grids.cons (HG53.out.below hb55) hgP) hgQ); clear HG53
    have HR58 := Lib.hid (HR54.out.below hb55); clear HR54
    have HPf := Lib.hid hPf; have HQf := Lib.hid hQf; clear hgP hgQ hb55 hPf hQf
    have iQ := Lib.hid (fun (W : World) (q : Errs W) (k : GridAt W aP P) (k2 : GridAt W aQ Q) => impl_TimesTable aP cP P aQ cQ Q W q k HPf.out.rows.1 HPf.out.rows.2 k2 HQf.out.rows.1 HQf.out.rows.2)
    have sQ := Lib.hid (fun (W : World) (k : GridAt W aP P) (k2 : GridAt W aQ Q) => spec_TimesTable aP cP P aQ cQ Q W k HPf.out.rows.1 HPf.out.rows.2 k2 HQf.out.rows.1 HQf.out.rows.2)
    have ql := Tw.times_few P Q
    generalize decide (Tw.TimesOk P Q) = TO at *
    generalize Tw.times P Q = TT at *
    have Hql := Lib.hid (few_tot ql); clear ql
    go_wp2_with fail
    refine (iQ.out w11 (HE.out.keeps hB56x.out) (HG57.out aP P (by simp)) (HG57.out aQ Q (by simp))).mono ?_
    rintro e w12 ⟨a59, c60, rfl, _, _, hg61, hb62⟩
    have hB63x := Lib.hid (hB56x.out.trans (hb62.mono hB56x.out.size))
    have HG64 := Lib.hid (Grids.cons (HG57.out.below hb62) hg61.grid); clear HG57
    have HR65 := Lib.hid (HR58.out.below hb62); clear HR58
    clear hg61 hb62
    as_aux_lemma =>
    go_wp2_with fail
    refine (sQ.out w12 (HG64.out aP P (by simp)) (HG64.out aQ Q (by simp))).mono ?_
    rintro e w13 ⟨a66, c67, rfl, _, _, hg68, hb69⟩
    have hB70x := Lib.hid (hB63x.out.trans (hb69.mono hB63x.out.size))
    have HG71 := Lib.hid (Grids.cons (HG64.out.below hb69) hg68.grid); clear HG64
    have HR72 := Lib.hid (HR65.out.below hb69); clear HR65
    clear hg68 hb69
    go_wp2_with fail
    refine (drawIsSymplectic a c l w13 (Ha.out.below hB70x.out) Hb.out hsz).mono ?_
    rintro e w14 ⟨N, aS, cS, S, rfl, hgS, hSf, hN, hb73⟩
    have hB74x := Lib.hid (hB70x.out.trans (hb73.mono hB70x.out.size))
    have HG75 := Lib.hid (Grids.cons (HG71.out.below hb73) hgS); clear HG71
    have HR76 := Lib.hid (HR72.out.below hb73); clear HR72
    have HSf := Lib.hid hSf; clear hgS hb73 hSf hN
    have iS := Lib.hid (fun (W : World) (q : Errs W) (k : GridAt W aS S) => impl_IsSymplectic N aS cS S W q k HSf.out.rows.1 HSf.out.rows.2)
    have sS := Lib.hid (fun (W : World) (k : GridAt W aS S) => spec_IsSymplectic N aS cS S W k HSf.out.rows.1 HSf.out.rows.2)
    generalize decide (Tw.IsSym N S) = SY at *
    go_wp2_with fail
    refine (iFo.out w14 (HE.out.keeps hB74x.out) (HR76.out.get ax x (by simp)) (HR76.out.get ay y (by simp))).mono ?_
    rintro e w15 ⟨rfl, hb77⟩
    have hB78x := Lib.hid (hB74x.out.trans (hb77.mono hB74x.out.size))
    have HG79 := Lib.hid (HG75.out.below hb77); clear HG75
    have HR80 := Lib.hid (HR76.out.below hb77); clear HR76
    clear hb77
    go_wp2_with fail
    refine (sameInts_eq a9 a16 c10 c17 TW w15 (HR80.out.get a9 TW (by simp)) (HR80.out.get a16 TW (by simp)) (by have := Htl.out; omega)).mono ?_
    rintro e w16 ⟨rfl, hb81⟩
    have hB82x := Lib.hid (hB78x.out.trans (hb81.mono hB78x.out.size))
    have HG83 := Lib.hid (HG79.out.below hb81); clear HG79
    have HR84 := Lib.hid (HR80.out.below hb81); clear HR80
    clear hb81
    as_aux_lemma =>
    go_wp2_with fail
    refine (sameLists_eq a23 a30 c24 c31 MX w16 (HG83.out a23 MX (by simp)) (HG83.out a30 MX (by simp)) (few_tot Hmf.out)).mono ?_
    rintro e w17 ⟨rfl, hb85⟩
    have hB86x := Lib.hid (hB82x.out.trans (hb85.mono hB82x.out.size))
    have HG87 := Lib.hid (HG83.out.below hb85); clear HG83
    have HR88 := Lib.hid (HR84.out.below hb85); clear HR84
    clear hb85
    go_wp2_with fail
    refine (sameInts_eq a41 a48 c42 c49 AP w17 (HR88.out.get a41 AP (by simp)) (HR88.out.get a48 AP (by simp)) (by have := Hal.out; omega)).mono ?_
    rintro e w18 ⟨rfl, hb89⟩
    have hB90x := Lib.hid (hB86x.out.trans (hb89.mono hB86x.out.size))
    have HG91 := Lib.hid (HG87.out.below hb89); clear HG87
    have HR92 := Lib.hid (HR88.out.below hb89); clear HR88
    clear hb89
    go_wp2_with fail
    refine (sameLists_eq a59 a66 c60 c67 TT w18 (HG91.out a59 TT (by simp)) (HG91.out a66 TT (by simp)) Hql.out).mono ?_
    rintro e w19 ⟨rfl, hb93⟩
    have hB94x := Lib.hid (hB90x.out.trans (hb93.mono hB90x.out.size))
    have HG95 := Lib.hid (HG91.out.below hb93); clear HG91
    have HR96 := Lib.hid (HR92.out.below hb93); clear HR92
    clear hb93
    go_wp2_with fail
    refine (iS.out w19 (HE.out.keeps hB94x.out) (HG95.out aS S (by simp))).mono ?_
    rintro e w20 ⟨rfl, hb97⟩
    have hB98x := Lib.hid (hB94x.out.trans (hb97.mono hB94x.out.size))
    have HG99 := Lib.hid (HG95.out.below hb97); clear HG95
    have HR100 := Lib.hid (HR96.out.below hb97); clear HR96
    clear hb97
    as_aux_lemma =>
    go_wp2_with fail
    refine (sS.out w20 (HG99.out aS S (by simp))).mono ?_
    rintro e w21 ⟨rfl, hb101⟩
    have hB102x := Lib.hid (hB98x.out.trans (hb101.mono hB98x.out.size))
    have HG103 := Lib.hid (HG99.out.below hb101); clear HG99
    have HR104 := Lib.hid (HR100.out.below hb101); clear HR100
    clear hb101
    go_wp2_with fail
    refine (sFo.out w21 (HR104.out.get ax x (by simp)) (HR104.out.get ay y (by simp))).mono ?_
    rintro e w22 ⟨rfl, hb105⟩
    have hB106x := Lib.hid (hB102x.out.trans (hb105.mono hB102x.out.size))
    have HG107 := Lib.hid (HG103.out.below hb105); clear HG103
    have HR108 := Lib.hid (HR104.out.below hb105); clear HR104
    clear hb105
    go_wp2_with fail
    refine (iC.out w22 (HE.out.keeps hB106x.out) (HR108.out.get ax x (by simp))).mono ?_
    rintro e w23 ⟨rfl, hb109⟩
    have hB110x := Lib.hid (hB106x.out.trans (hb109.mono hB106x.out.size))
    have HG111 := Lib.hid (HG107.out.below hb109); clear HG107
    have HR112 := Lib.hid (HR108.out.below hb109); clear HR108
    clear hb109
    go_wp2_with fail
    refine (sC.out w23 (HR112.out.get ax x (by simp))).mono ?_
    rintro e w24 ⟨rfl, hw113⟩
    rw [hw113]; clear hw113 w24
    as_aux_lemma =>
    go_wp2_with fail
    refine (iP.out w23 (HE.out.keeps hB110x.out) (HR112.out.get ax x (by simp))).mono ?_
    rintro e w25 ⟨rfl, hb114⟩
    have hB115x := Lib.hid (hB110x.out.trans (hb114.mono hB110x.out.size))
    have HG116 := Lib.hid (HG111.out.below hb114); clear HG111
    have HR117 := Lib.hid (HR112.out.below hb114); clear HR112
    clear hb114
    go_wp2_with fail
    refine (sP.out w25 (HR117.out.get ax x (by simp))).mono ?_
    rintro e w26 ⟨rfl, hw118⟩
    rw [hw118]; clear hw118 w26
    go_wp2_with fail
    refine (iB.out w25 (HE.out.keeps hB115x.out) (HR117.out.get ax x (by simp)) (HR117.out.get ay y (by simp))).mono ?_
    rintro e w27 ⟨rfl, hb119⟩
    have hB120x := Lib.hid (hB115x.out.trans (hb119.mono hB115x.out.size))
    have HG121 := Lib.hid (HG116.out.below hb119); clear HG116
    have HR122 := Lib.hid (HR117.out.below hb119); clear HR117
    clear hb119
    go_wp2_with fail
    refine (sB.out w27 (HR122.out.get ax x (by simp)) (HR122.out.get ay y (by simp))).mono ?_
    rintro e w28 ⟨rfl, hb123⟩
    have hB124x := Lib.hid (hB120x.out.trans (hb123.mono hB120x.out.size))
    have HG125 := Lib.hid (HG121.out.below hb123); clear HG121
    have HR126 := Lib.hid (HR122.out.below hb123); clear HR122
    clear hb123
    as_aux_lemma =>
    go_wp2_with fail
    refine (iK.out w28 (HE.out.keeps hB124x.out) (HR126.out.get ax x (by simp)) (HR126.out.get ay y (by simp))).mono ?_
    rintro e w29 ⟨rfl, hb127⟩
    have hB128x := Lib.hid (hB124x.out.trans (hb127.mono hB124x.out.size))
    have HG129 := Lib.hid (HG125.out.below hb127); clear HG125
    have HR130 := Lib.hid (HR126.out.below hb127); clear HR126
    clear hb127
    go_wp2_with fail
    refine (sK.out w29 (HR130.out.get ax x (by simp)) (HR130.out.get ay y (by simp))).mono ?_
    rintro e w30 ⟨rfl, hb131⟩
    have hB132x := Lib.hid (hB128x.out.trans (hb131.mono hB128x.out.size))
    have HG133 := Lib.hid (HG129.out.below hb131); clear HG129
    have HR134 := Lib.hid (HR130.out.below hb131); clear HR130
    clear hb131
    clear iT sT iM sM iA sA iQ sQ iS sS iFo sFo iC iP sP sB sK Ha Hb HAf Hvl HPf HQf HSf Hql Hal Hmf Htl
    go_upto_region 19 with fail
    go_cut [241] from 41 (fun sv wx => sv = .bool false ∧ Below w30.heap.size w30 wx)
    case first => as_aux_lemma =>
      have hA135 := Lib.hid (Below.refl w30.heap.size w30)
      have eN : IntKind.i64.wrap (-FY) = F := by have := Hfb.out; rw [HfN.out]; exact wrap_small (by omega) (by omega)
      go_wp2_with fail
      refine (iFy.out w30 (HE.out.keeps hB132x.out) (HR134.out.get ax x (by simp)) (HR134.out.get ay y (by simp))).mono ?_
      rintro e w31 ⟨rfl, hb136⟩
      have hB137x := Lib.hid (hB132x.out.trans (hb136.mono hB132x.out.size))
      have HG138 := Lib.hid (HG133.out.below hb136); clear HG133
      have HR139 := Lib.hid (HR134.out.below hb136); clear HR134
      have hA140 := Lib.hid (hA135.out.trans (hb136.mono hA135.out.size)); clear hA135
      clear hb136
      cases MO with
      | false => as_aux_lemma =>
        go_wp2_with fail
        go_meet
        exact ⟨rfl, hA140.out⟩
      | true => as_aux_lemma =>
        have hs := HfS.out rfl
        subst hs
        go_wp2_with fail
        refine (iSM.out w31 (HE.out.keeps hB137x.out) a23 c24 (HG138.out a23 MX (by simp))).mono ?_
        rintro e w32 ⟨rfl, hb141⟩
        have hB142x := Lib.hid (hB137x.out.trans (hb141.mono hB137x.out.size))
        have HG143 := Lib.hid (HG138.out.below hb141); clear HG138
        have HR144 := Lib.hid (HR139.out.below hb141); clear HR139
        have hA145 := Lib.hid (hA140.out.trans (hb141.mono hA140.out.size)); clear hA140
        clear hb141
        go_wp2_with fail
        go_meet
        exact ⟨rfl, hA145.out⟩
    case rest => as_aux_lemma =>
    obtain ⟨rfl, hb146⟩ := hcut
    obtain ⟨w33, hu0⟩ : ∃ u, u = wc := ⟨_, rfl⟩
    subst hu0
    have hB147x := Lib.hid (hB132x.out.trans (hb146.mono hB132x.out.size))
    have HG148 := Lib.hid (HG133.out.below hb146); clear HG133
    have HR149 := Lib.hid (HR134.out.below hb146); clear HR134
    clear hb146
    clear iFy iSM HfN Hfb HfS
    obtain ⟨V, hV⟩ : ∃ v, (OK && decide (-19 ≤ K)) = v := ⟨_, rfl⟩
    have HhV := Lib.hid hV; clear hV
    go_upto_region 21 with fail
    go_cut [246] from 41 (fun sv wx => sv = .bool V ∧ Below w33.heap.size w33 wx)
    case first => as_aux_lemma =>
      have hA150 := Lib.hid (Below.refl w33.heap.size w33)
      cases OK with
      | false => as_aux_lemma =>
        obtain rfl : V = false := by rw [← HhV.out]; simp 
        go_wp2_with fail
        go_meet
        exact ⟨by first | rfl | simp  | (simp; omega), hA150.out⟩
      | true => as_aux_lemma =>
        by_cases k19 : -19 ≤ K
        · as_aux_lemma =>
          obtain rfl : V = true := by rw [← HhV.out]; simp [k19]
          go_wp2_with fail
          go_meet
          exact ⟨by first | rfl | simp [k19] | (simp; omega), hA150.out⟩
        · as_aux_lemma =>
          obtain rfl : V = false := by rw [← HhV.out]; simp [k19]
          go_wp2_with fail
          go_meet
          exact ⟨by first | rfl | simp [k19] | (simp; omega), hA150.out⟩
    case rest => as_aux_lemma =>
    obtain ⟨rfl, hb151⟩ := hcut
    obtain ⟨w34, hu0⟩ : ∃ u, u = wc := ⟨_, rfl⟩
    subst hu0
    have hB152x := Lib.hid (hB147x.out.trans (hb151.mono hB147x.out.size))
    have HG153 := Lib.hid (HG148.out.below hb151); clear HG148
    have HR154 := Lib.hid (HR149.out.below hb151); clear HR149
    clear hb151
    go_upto_if 246 with fail
    go_cut [] from 33 (fun wx => Below w34.heap.size w34 wx)
    case first => as_aux_lemma =>
      have hA155 := Lib.hid (Below.refl w34.heap.size w34)
      cases V with
      | false => as_aux_lemma =>
        go_wp2_with fail
        go_meet
        exact hA155.out
      | true => as_aux_lemma =>
        have hv := HhV.out
        rw [Bool.and_eq_true, decide_eq_true_eq] at hv
        obtain ⟨rfl, k19⟩ := hv
        obtain ⟨q1, q2⟩ := HfT.out (by first | exact rfl | trivial)
        subst q1
        have eK : IntKind.i64.wrap (-K) = -K := by have := HhK.out; exact wrap_small (by omega) (by omega)
        as_aux_lemma =>
        go_wp2_with fail
        refine (iTB.out w34 (HE.out.keeps hB152x.out) a9 c10 (HR154.out.get ac C (by simp)) (HR154.out.get a9 TW (by simp))).mono ?_
        rintro e w35 ⟨a156, c157, rfl, _, _, hf158, hb159⟩
        have hB160x := Lib.hid (hB152x.out.trans (hb159.mono hB152x.out.size))
        have HG161 := Lib.hid (HG153.out.below hb159); clear HG153
        have HR162 := Lib.hid (Rows.cons (HR154.out.below hb159) hf158.row); clear HR154
        have hA163 := Lib.hid (hA155.out.trans (hb159.mono hA155.out.size)); clear hA155
        clear hf158 hb159
        cases FO with
        | false => as_aux_lemma =>
          go_wp2_with fail
          refine (iF1.out w35 (HE.out.keeps hB160x.out) a9 c10 (HR162.out.get ac C (by simp)) (HR162.out.get a9 TW (by simp))).mono ?_
          rintro e w36 ⟨rfl, hb164⟩
          have hB165x := Lib.hid (hB160x.out.trans (hb164.mono hB160x.out.size))
          have HG166 := Lib.hid (HG161.out.below hb164); clear HG161
          have HR167 := Lib.hid (HR162.out.below hb164); clear HR162
          have hA168 := Lib.hid (hA163.out.trans (hb164.mono hA163.out.size)); clear hA163
          clear hb164
          go_wp2_with fail
          refine (iF2.out w36 (HE.out.keeps hB165x.out) (HR167.out.get ac C (by simp)) (HR167.out.get az Z (by simp))).mono ?_
          rintro e w37 ⟨rfl, hb169⟩
          have hB170x := Lib.hid (hB165x.out.trans (hb169.mono hB165x.out.size))
          have HG171 := Lib.hid (HG166.out.below hb169); clear HG166
          have HR172 := Lib.hid (HR167.out.below hb169); clear HR167
          have hA173 := Lib.hid (hA168.out.trans (hb169.mono hA168.out.size)); clear hA168
          clear hb169
          go_wp2_with fail
          go_meet
          exact hA173.out
        | true => as_aux_lemma =>
          have qq := q2 (by first | exact rfl | trivial)
          subst qq
          go_wp2_with fail
          refine (sameInts_eq a156 az c157 cz BK w35 (HR162.out.get a156 BK (by simp)) (HR162.out.get az BK (by simp)) (by have := HlC.out; omega)).mono ?_
          rintro e w38 ⟨rfl, hb174⟩
          have hB175x := Lib.hid (hB160x.out.trans (hb174.mono hB160x.out.size))
          have HG176 := Lib.hid (HG161.out.below hb174); clear HG161
          have HR177 := Lib.hid (HR162.out.below hb174); clear HR162
          have hA178 := Lib.hid (hA163.out.trans (hb174.mono hA163.out.size)); clear hA163
          clear hb174
          as_aux_lemma =>
          go_wp2_with fail
          refine (iF1.out w38 (HE.out.keeps hB175x.out) a9 c10 (HR177.out.get ac C (by simp)) (HR177.out.get a9 TW (by simp))).mono ?_
          rintro e w39 ⟨rfl, hb179⟩
          have hB180x := Lib.hid (hB175x.out.trans (hb179.mono hB175x.out.size))
          have HG181 := Lib.hid (HG176.out.below hb179); clear HG176
          have HR182 := Lib.hid (HR177.out.below hb179); clear HR177
          have hA183 := Lib.hid (hA178.out.trans (hb179.mono hA178.out.size)); clear hA178
          clear hb179
          go_wp2_with fail
          refine (iF2.out w39 (HE.out.keeps hB180x.out) (HR182.out.get ac C (by simp)) (HR182.out.get az BK (by simp))).mono ?_
          rintro e w40 ⟨rfl, hb184⟩
          have hB185x := Lib.hid (hB180x.out.trans (hb184.mono hB180x.out.size))
          have HG186 := Lib.hid (HG181.out.below hb184); clear HG181
          have HR187 := Lib.hid (HR182.out.below hb184); clear HR182
          have hA188 := Lib.hid (hA183.out.trans (hb184.mono hA183.out.size)); clear hA183
          clear hb184
          go_wp2_with fail
          go_meet
          exact hA188.out
    case rest => as_aux_lemma =>
    have hb189 := hcut; clear hcut
    obtain ⟨w41, hu0⟩ : ∃ u, u = wc := ⟨_, rfl⟩
    subst hu0
    have hB190x := Lib.hid (hB152x.out.trans (hb189.mono hB152x.out.size))
    have HG191 := Lib.hid (HG153.out.below hb189); clear HG153
    have HR192 := Lib.hid (HR154.out.below hb189); clear HR154
    clear hb189
    clear iTB iF1 iF2 HfT HhK HhV HlC lC lZ
    go_wp2
    go_loopw [35, 36] (fun bv iv wr => ∃ (i : Nat) (b : Bool), i ≤ x.length ∧ iv = .int .i64 i ∧ bv = .bool b ∧ Hid (b = true → ∀ j, j < i → (-2 ≤ Tw.nth x j ∧ Tw.nth x j ≤ 2) ∧ (-2 ≤ Tw.nth y j ∧ Tw.nth y j ≤ 2)) ∧ wr = w41) (fun _ iv _ => x.length - (intOf iv).toNat)
    case atStart => exact ⟨0, true, by omega, rfl, rfl, Lib.hid (fun _ j h => by omega), rfl⟩
    case round =>
      obtain ⟨i, b, hi, rfl, rfl, hsm, hwr⟩ := hrel
      subst hwr
      have q0 : (0 : Int) ≤ (i : Int) := by omega
      by_cases hlt : i < x.length
      · as_aux_lemma =>
        by_cases hlt2 : i < y.length
        · as_aux_lemma =>
          obtain ⟨b1, o1, eb1, _, hc1⟩ := intCells_get? (HR192.out.get ax x (by simp)) (Tw.get?_nth hlt)
          obtain ⟨b2, o2, eb2, _, hc2⟩ := intCells_get? (HR192.out.get ay y (by simp)) (Tw.get?_nth hlt2)
          have fx : -1001 ≤ Tw.nth x i ∧ Tw.nth x i ≤ 1001 := HF.out.1 _ (List.mem_of_getElem? (Tw.get?_nth hlt))
          have fy : -1001 ≤ Tw.nth y i ∧ Tw.nth y i ≤ 1001 := HF.out.2 _ (List.mem_of_getElem? (Tw.get?_nth hlt2))
          have Hx := Lib.hid (rfl : Tw.nth x i = Tw.nth x i); have Hy := Lib.hid (rfl : Tw.nth y i = Tw.nth y i)
          obtain ⟨vx, hvx⟩ : ∃ v, Tw.nth x i = v := ⟨_, rfl⟩
          obtain ⟨vy, hvy⟩ : ∃ v, Tw.nth y i = v := ⟨_, rfl⟩
          rw [hvx] at hc1 fx; rw [hvy] at hc2 fy
          have Hvx := Lib.hid hvx; have Hvy := Lib.hid hvy; clear hvx hvy Hx Hy
          have mx := magnitude vx wr fx.1 fx.2; have my := magnitude vy wr fy.1 fy.2
          have Mx := Lib.hid mx; have My := Lib.hid my; clear mx my
          subst eb1; subst eb2
          have i1 : (i : Int) < (x.length : Int) := by omega
          have i2 : (i : Int) < (y.length : Int) := by omega
          cases b with
          | false => as_aux_lemma =>
            go_wp2
            go_roundw
            case rel => exact ⟨i + 1, _, by omega, by go_num, rfl, Lib.hid (fun h => by first | (cases h; done) | (simp at h; done)), by first | rfl | trivial⟩
            case measure => simp [intOf]; omega
          | true => as_aux_lemma =>
            go_wp2_with fail
            refine Mx.out.mono ?_
            rintro e w9 ⟨rfl, hw9⟩
            rw [hw9]; clear hw9 w9
            by_cases m1 : vx.natAbs < 3
            · as_aux_lemma =>
              have t1 : (vx.natAbs : Int) < 3 := by omega
              go_wp2_with fail
              refine My.out.mono ?_
              rintro e w9 ⟨rfl, hw9⟩
              rw [hw9]; clear hw9 w9
              by_cases m2 : vy.natAbs < 3
              · as_aux_lemma =>
                have t2 : (vy.natAbs : Int) < 3 := by omega
                have Hnew := Lib.hid (show ∀ j, j < i + 1 → (-2 ≤ Tw.nth x j ∧ Tw.nth x j ≤ 2) ∧ (-2 ≤ Tw.nth y j ∧ Tw.nth y j ≤ 2) from fun j hj => by
                  rcases Nat.lt_or_ge j i with h | h
                  · exact hsm.out (by first | exact rfl | trivial) j h
                  · obtain rfl : j = i := by omega
                    rw [Hvx.out, Hvy.out]; omega)
                go_wp2
                go_roundw
                case rel => exact ⟨i + 1, _, by omega, by go_num, rfl, Lib.hid (fun _ => Hnew.out), by first | rfl | trivial⟩
                case measure => simp [intOf]; omega
              · as_aux_lemma =>
                have t2 : ¬ (vy.natAbs : Int) < 3 := by omega
                go_wp2
                go_roundw
                case rel => exact ⟨i + 1, _, by omega, by go_num, rfl, Lib.hid (fun h => by first | (cases h; done) | (simp at h; done) | (exfalso; simp at h; omega)), by first | rfl | trivial⟩
                case measure => simp [intOf]; omega
            · as_aux_lemma =>
              have t1 : ¬ (vx.natAbs : Int) < 3 := by omega
              go_wp2
              go_roundw
              case rel => exact ⟨i + 1, _, by omega, by go_num, rfl, Lib.hid (fun h => by first | (cases h; done) | (simp at h; done) | (exfalso; simp at h; omega)), by first | rfl | trivial⟩
              case measure => simp [intOf]; omega
        · as_aux_lemma =>
          have i1 : (i : Int) < (x.length : Int) := by omega
          have i2 : ¬ (i : Int) < (y.length : Int) := by omega
          have hout : ¬ i < x.length ∨ ¬ i < y.length := Or.inr hlt2
          clear hlt hlt2
          have Hsm := hsm; clear hsm
          go_wp2_with fail
          refine (sC.out wr (HR192.out.get ax x (by simp))).mono ?_
          rintro e w42 ⟨rfl, hw193⟩
          rw [hw193]; clear hw193 w42
          cases CX with
          | false => as_aux_lemma =>
            go_wp2
            go_ret
            exact ⟨rfl, hB190x.out⟩
          | true => as_aux_lemma =>
            go_wp2_with fail
            refine (sCy.out wr (HR192.out.get ay y (by simp))).mono ?_
            rintro e w43 ⟨rfl, hw194⟩
            rw [hw194]; clear hw194 w43
            cases CY with
            | false => as_aux_lemma =>
              go_wp2
              go_ret
              exact ⟨rfl, hB190x.out⟩
            | true => as_aux_lemma =>
              cases b with
              | false => as_aux_lemma =>
                go_wp2
                go_ret
                exact ⟨rfl, hB190x.out⟩
              | true => as_aux_lemma =>
                have cx := of_decide_eq_true HhCX.out; have cy := of_decide_eq_true HhCY.out
                have l1 := cx.len; have l2 := cy.len
                have hsm2 := Hsm.out (by first | exact rfl | trivial)
                have sx : Tw.Small x := fun j => by
                  by_cases hj : j < i
                  · exact (hsm2 j hj).1
                  · rw [Tw.nth_ge (by omega)]; omega
                have sy : Tw.Small y := fun j => by
                  by_cases hj : j < i
                  · exact (hsm2 j hj).2
                  · rw [Tw.nth_ge (by omega)]; omega
                obtain ⟨f1, f2, f3⟩ := HfL.out cx cy sx sy
                have Hf1 := Lib.hid f1; have Hf2 := Lib.hid f2; have Hf3 := Lib.hid f3
                clear f1 f2 f3 hsm2 sx sy cx cy l1 l2 q0 HhCX HhCY HfL Hsm hout
                go_upto_region 32 with fail
                go_cut [340] from 41 (fun sv wx => sv = .bool false ∧ Below wr.heap.size wr wx)
                case first => as_aux_lemma =>
                  have hA195 := Lib.hid (Below.refl wr.heap.size wr)
                  by_cases hF0 : F = 0
                  · as_aux_lemma =>
                    have qq := Hf1.out hF0
                    subst qq
                    subst hF0
                    have u0 : ((0 : Int) == 0) = true := by decide
                    have u1 : ((0 : Int) == 1) = false := by decide
                    have u2 : ((0 : Int) == -1) = false := by decide
                    as_aux_lemma =>
                    go_wp2_with fail
                    refine (iK.out wr (HE.out.keeps hB190x.out) (HR192.out.get ax x (by simp)) (HR192.out.get ay y (by simp))).mono ?_
                    rintro e w44 ⟨rfl, hb196⟩
                    have hB197x := Lib.hid (hB190x.out.trans (hb196.mono hB190x.out.size))
                    have HG198 := Lib.hid (HG191.out.below hb196); clear HG191
                    have HR199 := Lib.hid (HR192.out.below hb196); clear HR192
                    have hA200 := Lib.hid (hA195.out.trans (hb196.mono hA195.out.size)); clear hA195
                    clear hb196
                    go_wp2_with fail
                    go_meet
                    exact ⟨rfl, hA200.out⟩
                  · as_aux_lemma =>
                    have u0 : (F == 0) = false := beq_eq_false_iff_ne.2 hF0
                    by_cases hF1 : F = 1
                    · as_aux_lemma =>
                      have qq := Hf2.out (Or.inl hF1)
                      subst qq
                      have u1 : (F == 1) = true := beq_iff_eq.2 hF1
                      clear hF1 hF0
                      go_wp2_with fail
                      refine (iB.out wr (HE.out.keeps hB190x.out) (HR192.out.get ax x (by simp)) (HR192.out.get ay y (by simp))).mono ?_
                      rintro e w45 ⟨rfl, hb201⟩
                      have hB202x := Lib.hid (hB190x.out.trans (hb201.mono hB190x.out.size))
                      have HG203 := Lib.hid (HG191.out.below hb201); clear HG191
                      have HR204 := Lib.hid (HR192.out.below hb201); clear HR192
                      have hA205 := Lib.hid (hA195.out.trans (hb201.mono hA195.out.size)); clear hA195
                      clear hb201
                      go_wp2_with fail
                      go_meet
                      exact ⟨rfl, hA205.out⟩
                    · as_aux_lemma =>
                      have u1 : (F == 1) = false := beq_eq_false_iff_ne.2 hF1
                      by_cases hF2 : F = -1
                      · as_aux_lemma =>
                        have qq := Hf2.out (Or.inr hF2)
                        subst qq
                        have u2 : (F == -1) = true := beq_iff_eq.2 hF2
                        clear hF1 hF0 hF2
                        go_wp2_with fail
                        refine (iB.out wr (HE.out.keeps hB190x.out) (HR192.out.get ax x (by simp)) (HR192.out.get ay y (by simp))).mono ?_
                        rintro e w46 ⟨rfl, hb206⟩
                        have hB207x := Lib.hid (hB190x.out.trans (hb206.mono hB190x.out.size))
                        have HG208 := Lib.hid (HG191.out.below hb206); clear HG191
                        have HR209 := Lib.hid (HR192.out.below hb206); clear HR192
                        have hA210 := Lib.hid (hA195.out.trans (hb206.mono hA195.out.size)); clear hA195
                        clear hb206
                        go_wp2_with fail
                        go_meet
                        exact ⟨rfl, hA210.out⟩
                      · as_aux_lemma =>
                        have u2 : (F == -1) = false := beq_eq_false_iff_ne.2 hF2
                        clear hF1 hF0 hF2
                        go_wp2_with fail
                        go_meet
                        exact ⟨rfl, hA195.out⟩
                case rest => as_aux_lemma =>
                obtain ⟨rfl, hb211⟩ := hcut
                obtain ⟨w47, hu0⟩ : ∃ u, u = wc := ⟨_, rfl⟩
                subst hu0
                have hB212x := Lib.hid (hB190x.out.trans (hb211.mono hB190x.out.size))
                have HG213 := Lib.hid (HG191.out.below hb211); clear HG191
                have HR214 := Lib.hid (HR192.out.below hb211); clear HR192
                clear hb211
                go_wp2_with fail
                refine (iT1.out w47 (HE.out.keeps hB212x.out) (HR214.out.get ax x (by simp)) (HR214.out.get ay y (by simp))).mono ?_
                rintro e w48 ⟨a215, c216, rfl, _, _, hf217, hb218⟩
                have hB219x := Lib.hid (hB212x.out.trans (hb218.mono hB212x.out.size))
                have HG220 := Lib.hid (HG213.out.below hb218); clear HG213
                have HR221 := Lib.hid (Rows.cons (HR214.out.below hb218) hf217.row); clear HR214
                clear hf217 hb218
                as_aux_lemma =>
                go_wp2_with fail
                refine (iAM.out w48 (HE.out.keeps hB219x.out) a23 c24 (HG220.out a23 MX (by simp)) (HR221.out.get ay y (by simp))).mono ?_
                rintro e w49 ⟨a222, c223, rfl, _, _, hf224, hb225⟩
                have hB226x := Lib.hid (hB219x.out.trans (hb225.mono hB219x.out.size))
                have HG227 := Lib.hid (HG220.out.below hb225); clear HG220
                have HR228 := Lib.hid (Rows.cons (HR221.out.below hb225) hf224.row); clear HR221
                clear hf224 hb225
                cases FI with
                | false => as_aux_lemma =>
                  go_wp2
                  go_ret
                  exact ⟨rfl, hB226x.out⟩
                | true => as_aux_lemma =>
                  obtain ⟨g1, g2⟩ := Hf3.out (by first | exact rfl | trivial)
                  subst g1; subst g2
                  go_wp2_with fail
                  refine (sameInts_eq a222 a215 c223 c216 UU w49 (HR228.out.get a222 UU (by simp)) (HR228.out.get a215 UU (by simp)) (by have := Hapl.out; omega)).mono ?_
                  rintro e w50 ⟨rfl, hb229⟩
                  have hB230x := Lib.hid (hB226x.out.trans (hb229.mono hB226x.out.size))
                  have HG231 := Lib.hid (HG227.out.below hb229); clear HG227
                  have HR232 := Lib.hid (HR228.out.below hb229); clear HR228
                  clear hb229
                  go_wp2
                  go_ret
                  exact ⟨by first | rfl | simp, hB230x.out⟩
      · as_aux_lemma =>
        have i1 : ¬ (i : Int) < (x.length : Int) := by omega
        have hout : ¬ i < x.length ∨ ¬ i < y.length := Or.inl hlt
        clear hlt
        have Hsm := hsm; clear hsm
        go_wp2_with fail
        refine (sC.out wr (HR192.out.get ax x (by simp))).mono ?_
        rintro e w51 ⟨rfl, hw233⟩
        rw [hw233]; clear hw233 w51
        cases CX with
        | false => as_aux_lemma =>
          go_wp2
          go_ret
          exact ⟨rfl, hB190x.out⟩
        | true => as_aux_lemma =>
          go_wp2_with fail
          refine (sCy.out wr (HR192.out.get ay y (by simp))).mono ?_
          rintro e w52 ⟨rfl, hw234⟩
          rw [hw234]; clear hw234 w52
          cases CY with
          | false => as_aux_lemma =>
            go_wp2
            go_ret
            exact ⟨rfl, hB190x.out⟩
          | true => as_aux_lemma =>
            cases b with
            | false => as_aux_lemma =>
              go_wp2
              go_ret
              exact ⟨rfl, hB190x.out⟩
            | true => as_aux_lemma =>
              have cx := of_decide_eq_true HhCX.out; have cy := of_decide_eq_true HhCY.out
              have l1 := cx.len; have l2 := cy.len
              have hsm2 := Hsm.out (by first | exact rfl | trivial)
              have sx : Tw.Small x := fun j => by
                by_cases hj : j < i
                · exact (hsm2 j hj).1
                · rw [Tw.nth_ge (by omega)]; omega
              have sy : Tw.Small y := fun j => by
                by_cases hj : j < i
                · exact (hsm2 j hj).2
                · rw [Tw.nth_ge (by omega)]; omega
              obtain ⟨f1, f2, f3⟩ := HfL.out cx cy sx sy
              have Hf1 := Lib.hid f1; have Hf2 := Lib.hid f2; have Hf3 := Lib.hid f3
              clear f1 f2 f3 hsm2 sx sy cx cy l1 l2 q0 HhCX HhCY HfL Hsm hout
              go_upto_region 32 with fail
              go_cut [340] from 41 (fun sv wx => sv = .bool false ∧ Below wr.heap.size wr wx)
              case first => as_aux_lemma =>
                have hA235 := Lib.hid (Below.refl wr.heap.size wr)
                by_cases hF0 : F = 0
                · as_aux_lemma =>
                  have qq := Hf1.out hF0
                  subst qq
                  subst hF0
                  have u0 : ((0 : Int) == 0) = true := by decide
                  have u1 : ((0 : Int) == 1) = false := by decide
                  have u2 : ((0 : Int) == -1) = false := by decide
                  as_aux_lemma =>
                  go_wp2_with fail
                  refine (iK.out wr (HE.out.keeps hB190x.out) (HR192.out.get ax x (by simp)) (HR192.out.get ay y (by simp))).mono ?_
                  rintro e w53 ⟨rfl, hb236⟩
                  have hB237x := Lib.hid (hB190x.out.trans (hb236.mono hB190x.out.size))
                  have HG238 := Lib.hid (HG191.out.below hb236); clear HG191
                  have HR239 := Lib.hid (HR192.out.below hb236); clear HR192
                  have hA240 := Lib.hid (hA235.out.trans (hb236.mono hA235.out.size)); clear hA235
                  clear hb236
                  go_wp2_with fail
                  go_meet
                  exact ⟨rfl, hA240.out⟩
                · as_aux_lemma =>
                  have u0 : (F == 0) = false := beq_eq_false_iff_ne.2 hF0
                  by_cases hF1 : F = 1
                  · as_aux_lemma =>
                    have qq := Hf2.out (Or.inl hF1)
                    subst qq
                    have u1 : (F == 1) = true := beq_iff_eq.2 hF1
                    clear hF1 hF0
                    go_wp2_with fail
                    refine (iB.out wr (HE.out.keeps hB190x.out) (HR192.out.get ax x (by simp)) (HR192.out.get ay y (by simp))).mono ?_
                    rintro e w54 ⟨rfl, hb241⟩
                    have hB242x := Lib.hid (hB190x.out.trans (hb241.mono hB190x.out.size))
                    have HG243 := Lib.hid (HG191.out.below hb241); clear HG191
                    have HR244 := Lib.hid (HR192.out.below hb241); clear HR192
                    have hA245 := Lib.hid (hA235.out.trans (hb241.mono hA235.out.size)); clear hA235
                    clear hb241
                    go_wp2_with fail
                    go_meet
                    exact ⟨rfl, hA245.out⟩
                  · as_aux_lemma =>
                    have u1 : (F == 1) = false := beq_eq_false_iff_ne.2 hF1
                    by_cases hF2 : F = -1
                    · as_aux_lemma =>
                      have qq := Hf2.out (Or.inr hF2)
                      subst qq
                      have u2 : (F == -1) = true := beq_iff_eq.2 hF2
                      clear hF1 hF0 hF2
                      go_wp2_with fail
                      refine (iB.out wr (HE.out.keeps hB190x.out) (HR192.out.get ax x (by simp)) (HR192.out.get ay y (by simp))).mono ?_
                      rintro e w55 ⟨rfl, hb246⟩
                      have hB247x := Lib.hid (hB190x.out.trans (hb246.mono hB190x.out.size))
                      have HG248 := Lib.hid (HG191.out.below hb246); clear HG191
                      have HR249 := Lib.hid (HR192.out.below hb246); clear HR192
                      have hA250 := Lib.hid (hA235.out.trans (hb246.mono hA235.out.size)); clear hA235
                      clear hb246
                      go_wp2_with fail
                      go_meet
                      exact ⟨rfl, hA250.out⟩
                    · as_aux_lemma =>
                      have u2 : (F == -1) = false := beq_eq_false_iff_ne.2 hF2
                      clear hF1 hF0 hF2
                      go_wp2_with fail
                      go_meet
                      exact ⟨rfl, hA235.out⟩
              case rest => as_aux_lemma =>
              obtain ⟨rfl, hb251⟩ := hcut
              obtain ⟨w56, hu0⟩ : ∃ u, u = wc := ⟨_, rfl⟩
              subst hu0
              have hB252x := Lib.hid (hB190x.out.trans (hb251.mono hB190x.out.size))
              have HG253 := Lib.hid (HG191.out.below hb251); clear HG191
              have HR254 := Lib.hid (HR192.out.below hb251); clear HR192
              clear hb251
              go_wp2_with fail
              refine (iT1.out w56 (HE.out.keeps hB252x.out) (HR254.out.get ax x (by simp)) (HR254.out.get ay y (by simp))).mono ?_
              rintro e w57 ⟨a255, c256, rfl, _, _, hf257, hb258⟩
              have hB259x := Lib.hid (hB252x.out.trans (hb258.mono hB252x.out.size))
              have HG260 := Lib.hid (HG253.out.below hb258); clear HG253
              have HR261 := Lib.hid (Rows.cons (HR254.out.below hb258) hf257.row); clear HR254
              clear hf257 hb258
              as_aux_lemma =>
              go_wp2_with fail
              refine (iAM.out w57 (HE.out.keeps hB259x.out) a23 c24 (HG260.out a23 MX (by simp)) (HR261.out.get ay y (by simp))).mono ?_
              rintro e w58 ⟨a262, c263, rfl, _, _, hf264, hb265⟩
              have hB266x := Lib.hid (hB259x.out.trans (hb265.mono hB259x.out.size))
              have HG267 := Lib.hid (HG260.out.below hb265); clear HG260
              have HR268 := Lib.hid (Rows.cons (HR261.out.below hb265) hf264.row); clear HR261
              clear hf264 hb265
              cases FI with
              | false => as_aux_lemma =>
                go_wp2
                go_ret
                exact ⟨rfl, hB266x.out⟩
              | true => as_aux_lemma =>
                obtain ⟨g1, g2⟩ := Hf3.out (by first | exact rfl | trivial)
                subst g1; subst g2
                go_wp2_with fail
                refine (sameInts_eq a262 a255 c263 c256 UU w58 (HR268.out.get a262 UU (by simp)) (HR268.out.get a255 UU (by simp)) (by have := Hapl.out; omega)).mono ?_
                rintro e w59 ⟨rfl, hb269⟩
                have hB270x := Lib.hid (hB266x.out.trans (hb269.mono hB266x.out.size))
                have HG271 := Lib.hid (HG267.out.below hb269); clear HG267
                have HR272 := Lib.hid (HR268.out.below hb269); clear HR268
                clear hb269
                go_wp2
                go_ret
                exact ⟨by first | rfl | simp, hB270x.out⟩

set_option maxRecDepth 100000 in
theorem contract (H : Type) (enc : TypeId × Value → H) (W : World) (base : Nat) (args : Array Value) (ds gs : List (DataW H)) (before : List MemPlace)
    (hval : ∀ (j : Nat) t v, Tryd.f3.params[j]? = some t → args[j]? = some v → Value.okWide Tryd.prog W .any base t v)
    (hW : DataW.Whole enc Tryd.prog Tryd.f3.params.toList Rows.fnTwistsSpec.vars false W args.toList ds gs before) (hL : laidMetH Tryd.prog Rows.fnTwistsRow.laid W) :
    Calls Tryd.prog 3 args W fun e W' => ∃ v, e = .returned v ∧ Rows.fnTwistsSpec.post enc Tryd.prog Tryd.f3 false true false false W args v W' := by
  have hW' := hW
  obtain ⟨p, q, hA0, hV, rfl, hfz, hnd⟩ := hW
  have hA : DataW.TrodAll enc Tryd.prog W 0 (fun _ => true) true Tryd.f3.params.toList args.toList ds p := hA0
  rw [Tryd.params3] at hA hval
  obtain ⟨v0, vs0, d0, ds0, p0, q0, hargs, rfl, rfl, h0, r0⟩ := trodAll_cons hA
  obtain ⟨rfl, rfl, rfl⟩ := trodAll_nil r0
  obtain rfl : args = #[v0] := by cases args; simp_all
  have hV : DataW.TrodVars enc Tryd.prog W (fun _ => true) ["loop.example/g03105/impl.errTooGreat"] gs q := hV
  obtain ⟨sa, hsv⟩ := Er.var_of hL (by rfl)
  have hvr : ∀ {X : World}, X.var? Tryd.prog "loop.example/g03105/impl.errTooGreat" = some #[.iface 100 (.pointer (some sa))] → ∀ sp : Nat → Bool, DataW.TrodVars enc Tryd.prog X sp ["loop.example/g03105/impl.errTooGreat"] [tok enc (.iface 100 (.pointer (some sa)))] [.cell 0 0] :=
    fun x0 sp => vars_read1 enc Er.gGreat Er.tGreat Tryd.underlying78 x0 trivial sp
  obtain ⟨rfl, rfl⟩ := hV.unique (hvr hsv _)
  have k0 := h0
  obtain ⟨acode, ccode, lcode, rfl, wcode⟩ := Read.bytes_of (hval 0 22 v0 rfl rfl) h0
  clear hA0
  simp only [List.append_nil] at hW'
  refine (law acode ccode lcode W wcode (errs_of hL (by rfl))).mono fun e W' ⟨he, hg⟩ => ?_
  subst he
  exact ⟨_, rfl, post_of_below (pv := [.cell 0 0]) hW' (fun _ _ _ => trodAll_cons_mk (shut_bool Tryd.underlying4 _) trodAll_mk0)
    (fun sp hs => trodAll_cons_mk (trod_keeps (t := 22) (by kernel_rfl) (by kernel_rfl) (by kernel_rfl) k0 hg (fun x hx => hW'.lt x (by simp_all)) (fun x hx => hs x (by simp_all))) (trodAll_mk0))
    (fun sp _ => hvr (Er.var_keeps hg Er.gGreat hsv) sp) (by simp) hg (ok_one (by kernel_rfl) rfl (okWide_bool_mk Tryd.underlying4 _))⟩

theorem laid_met (os : Os) : laidMetH Tryd.prog Rows.fnTwistsRow.laid ((World.doorLaid Tryd.prog 28 os).forCall (fun _ _ => 0) ⟨#[], #[.slice none 0 0], []⟩).memory :=
  Low.met os #[.slice none 0 0] Rows.fnTwistsRow.laid (Rows.fnTwistsRow.laid.map (·.1)) (by rfl)
set_option maxRecDepth 100000 in
theorem lifted (os : Os) (started : os.Started) (H : Type) (enc : TypeId × Value → H) (F : Stop.Interp) :
    ReturnsInHanded {} Tryd.checked os 3 .any ((OpenSpec.ofChange Rows.fnTwistsSpec).preRow enc Tryd.prog Tryd.f3 Rows.fnTwistsRow.domain false Rows.fnTwistsRow.laid) (((OpenSpec.ofChange Rows.fnTwistsSpec).at F).post enc Tryd.prog Tryd.f3 false true false false) := by
  refine returnsInHanded_of_row (C := Tryd.checked) (s := OpenSpec.ofChange Rows.fnTwistsSpec) Low.own started (by kernel_rfl) Tryd.func3
    (witness_row_atRef (enc := enc) (C := Tryd.checked) false (World.doorLaid Tryd.prog 28 os) #[.slice none 0 0] (by unfold World.doorLaid; rfl) (Low.shapeB os #[.slice none 0 0]) (Low.shapeR os #[.slice none 0 0]) (by kernel_rfl)
      (OpenSpec.preRow_of_B rfl 8 (by kernel_rfl) (by kernel_rfl) (laid_met os))) ?_
  intro W base args ds gs before hval hW _ _ _ hL hShaped _
  exact contract H enc W base args ds gs before hval hW hL

theorem said : Rows.FnTwistsSaid :=
  OpenClaim.holds_of_cond 3 Tryd.f3 rfl rfl rfl rfl rfl rfl rfl ⟨rfl, rfl, rfl, rfl, rfl⟩ rfl rfl rfl rfl rfl (by kernel_rfl) Tryd.func3 (by kernel_rfl)
    (of_decide_eq_true (by kernel_rfl)) (by unfold Func.isWrapper; first | (rw [if_pos (by decide +kernel)]; kernel_rfl) | (rw [if_neg (by decide +kernel)]; exact ⟨rfl, rfl⟩))
    (fun os started H enc _ F => by rw [OpenClaim.pre_eq_preRow]; exact lifted os started H enc F)

theorem looks (f : FuncId) (fn : Func) (hf : Tryd.pinned.checked.prog.funcNamed "loop.example/g03105/laws.FnTwists" = some f) (hfn : Tryd.pinned.checked.prog.funcs[f]? = some fn) :
    true = Tryd.pinned.checked.prog.looks [] ∧ ∀ (j : Nat) t, fn.params[j]? = some t → Tryd.pinned.checked.prog.wantsStandIn t = false := by
  obtain rfl : f = 3 := Option.some.inj ((show Tryd.prog.funcNamed "loop.example/g03105/laws.FnTwists" = some 3 by kernel_rfl).symm.trans hf) |>.symm
  obtain rfl : fn = Tryd.f3 := (Option.some.inj (Tryd.func3.symm.trans hfn)).symm
  refine ⟨by kernel_rfl, fun j t ht => ?_⟩
  rw [Tryd.params3] at ht
  have hm : t ∈ [22] := by simpa using Array.mem_of_getElem? ht
  have hall : ([22].all fun u => !Tryd.prog.wantsStandIn u) = true := by kernel_rfl
  exact (show Tryd.prog.wantsStandIn t = false by simpa using List.all_eq_true.1 hall t hm)

theorem card : Rows.FnTwistsCardSaid :=
  Claim7.holds_tied_plain_at .later [] _ _ _ _ said (fun _ h => by cases h) (by kernel_rfl) (fun _ h => by cases h) fnTwists_row_tie rfl ⟨rfl, rfl⟩ (by kernel_rfl) rfl looks (by kernel_rfl)
end Go.Proofs.YtamgimdjnmcpaaaDoor.fnTwists
