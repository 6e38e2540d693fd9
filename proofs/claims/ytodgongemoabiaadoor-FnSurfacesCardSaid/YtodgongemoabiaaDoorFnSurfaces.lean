/-
  For every draw: the surface of a standard gluing is the one that was asked for, and sums add what they should.
-/
import Derived.Test.YtodgongemoabiaaDoorCards
import Derived.Test.YtodgongemoabiaaDoorTie
import Derived.Test.YtodgongemoabiaaDoorBase
import Derived.Test.YtodgongemoabiaaDoorLow
import Derived.Test.YtodgongemoabiaaDoorDoorLow
import Derived.Test.YtodgongemoabiaaDoorSlice
import Derived.Test.YtodgongemoabiaaDoorIntRow
import Derived.Test.YtodgongemoabiaaDoorInts
import Derived.Test.YtodgongemoabiaaDoorStrs
import Derived.Test.YtodgongemoabiaaDoorOwn
import Derived.Test.YtodgongemoabiaaDoorReadBytes
import Derived.Test.YtodgongemoabiaaDoorGrid
import Derived.Test.YtodgongemoabiaaDoorGridWalk
import Derived.Test.YtodgongemoabiaaDoorGridRows
import Derived.Test.YtodgongemoabiaaDoorGlue
import Derived.Test.YtodgongemoabiaaDoorIsGluing
import Derived.Test.YtodgongemoabiaaDoorClass
import Derived.Test.YtodgongemoabiaaDoorLetters
import Derived.Test.YtodgongemoabiaaDoorLab
import Derived.Test.YtodgongemoabiaaDoorEnds
import Derived.Test.YtodgongemoabiaaDoorVert
import Derived.Test.YtodgongemoabiaaDoorTri
import Derived.Test.YtodgongemoabiaaDoorParts
import Derived.Test.YtodgongemoabiaaDoorBorders
import Derived.Test.YtodgongemoabiaaDoorTwo
import Derived.Test.YtodgongemoabiaaDoorTwoWalk
import Derived.Test.YtodgongemoabiaaDoorTopoS
import Derived.Test.YtodgongemoabiaaDoorFmt
import Derived.Test.YtodgongemoabiaaDoorSurf
import Derived.Test.YtodgongemoabiaaDoorSurfI
import Derived.Test.YtodgongemoabiaaDoorSurfSum
import Derived.Test.YtodgongemoabiaaDoorSurfWith
import Derived.Test.YtodgongemoabiaaDoorSurfOf
import Derived.Test.YtodgongemoabiaaDoorStd
import Derived.Test.YtodgongemoabiaaDoorStd2
import Derived.Test.YtodgongemoabiaaDoorStd3
import Derived.Test.YtodgongemoabiaaDoorSurfName
import Derived.Test.YtodgongemoabiaaDoorSurfFacts
import Derived.Test.YtodgongemoabiaaDoorHeld
import Derived.Test.YtodgongemoabiaaDoorDraw
import Derived.Test.YtodgongemoabiaaDoorDrawGlue0
import Derived.Test.YtodgongemoabiaaDoorDrawGlue
import Derived.Test.YtodgongemoabiaaDoorBentGlue
import Derived.Test.YtodgongemoabiaaDoorDrawSurf
import Derived.Test.YtodgongemoabiaaDoorSame
import Derived.Test.YtodgongemoabiaaDoorSameL
import Derived.Deep.DeepWitnessRowRef
import Derived.Deep.RegionHeld3
import Derived.Deep.CutRange
import Derived.BigQuiet
import Derived.Deep.QuietTactic
import Derived.OpenShut
import Derived.Deep.DeepHandedRow
import Derived.LaidMore
namespace Go.Proofs.YtodgongemoabiaaDoor.fnSurfaces
open Go.ChangeShapes Go.WideShapes Go.ChangeAt Go.RowKit Go.Sort
open Go.ChangeMaps (open_string)

theorem gTabType : (Tryd.prog.globals[0]?).map (·.type) = some 83 := by kernel_rfl
theorem cellsArr : Tryd.prog.cellsOf 83 = 20 := by kernel_rfl
theorem cellsElem : Tryd.prog.cellsOf 78 = 1 := by kernel_rfl
/-- What the row's list gives: the table of the powers of ten. -/
theorem table {W : World} (h : laidMetH Tryd.prog Rows.fnSurfacesRow.laid W) : Tab W := by
  have h1 := laidMetH.filter (fun x => x.1 == "internal/strconv.uint64pow10") h
  have e : Rows.fnSurfacesRow.laid.filter (fun x => x.1 == "internal/strconv.uint64pow10") = [("internal/strconv.uint64pow10", Lib.tabData .u64 Lib.pow10Tab)] := by rfl
  rw [e] at h1
  exact Lib.tabIs_of_head (rest := []) gTab gTabType Tryd.underlying83 Tryd.underlying78 cellsElem cellsArr h1
theorem below_drewN {N : Nat} {w w2 : World} (h : Below N w w2) (n : Nat) : Below N w (w2.drewN n) := ⟨h.os, h.tape, h.output, h.size, h.block⟩
theorem held_on {S : World → Prop} {W0 W v : World} (mk : ∀ w2, Below W0.heap.size W0 w2 → S w2) (h : S W) (pr : S W → Below W0.heap.size W0 W) (hb : Below W.heap.size W v) : S v := mk v ((pr h).trans (hb.mono (pr h).size))
theorem sumLen_bound {L : List (List Int)} {k : Nat} (h : ∀ r ∈ L, r.length ≤ k) : sumLen L ≤ k * L.length := by
  induction L with
  | nil => simp [sumLen]
  | cons r t ih =>
    have h1 := h r (List.mem_cons_self ..)
    have h2 := ih (fun x hx => h x (List.mem_cons_of_mem _ hx))
    unfold sumLen at h2 ⊢
    simp only [List.map_cons, List.sum_cons, List.length_cons, Nat.mul_add]
    omega
theorem shown_empty (b : ByteArray) : b.toList.isEmpty = (b == (⟨#[]⟩ : ByteArray)) := by
  rw [ByteArray.toList_eq]
  cases b with | mk d =>
  show d.toList.isEmpty = (d == #[])
  cases d with | mk l => cases l <;> rfl
theorem named_shown (x y z : Int) : (Surf.named x y z).toList.isEmpty = !decide (Surf.Is x y z) := (shown_empty _).trans (Surf.named_empty x y z)
def Done (w : World) (e : Ending) (w' : World) : Prop := e = .returned (.bool true) ∧ Below w.heap.size w w'
theorem three_small {x y z : Int} (h1 : -1 ≤ x ∧ x ≤ 21) (h2 : 0 ≤ y ∧ y ≤ 4) (h3 : -1 ≤ z ∧ z ≤ 21) : I64s [x, y, z] := fun n hn => by
  simp only [List.mem_cons, List.not_mem_nil, or_false] at hn
  rcases hn with rfl | rfl | rfl <;> omega

set_option maxRecDepth 100000 in
set_option maxHeartbeats 16000000 in
theorem law (a : Option Addr) (c : Nat) (l : List Int) (w : World) (hh : RowAt w a (byteCells l) ∧ l.length ≤ maxLen ∧ ∀ x ∈ l, 0 ≤ x ∧ x ≤ 255) (htab : Tab w) :
    Calls Tryd.prog 3 #[.slice a l.length c] w (Done w) := by
  obtain ⟨ha, hl, hb⟩ := hh
  unfold maxLen at hl
  have Hb := Lib.hid hb; have Ha := Lib.hid ha; have Ht := Lib.hid (fun W (hb : Below w.heap.size w W) => htab.below hb)
  clear hb ha htab
  by_cases hbig : 1048576 < l.length
  · have hd : decide (1048576 < l.length) = true := by simpa using hbig
    go_enter Tryd.func3, Tryd.ntmps3
    go_wp2_with fail
    refine (big a l.length c w (by omega)).mono ?_
    rintro e w' ⟨rfl, rfl⟩
    go_wp2
    go_ret
    exact ⟨rfl, Below.refl _ _⟩
  · have hd : decide (1048576 < l.length) = false := by simpa using hbig
    have hsz : l.length ≤ 1048576 := by omega
    have hB0 := Below.refl w.heap.size w
    go_enter Tryd.func3, Tryd.ntmps3
    go_wp2_with fail
    refine (big a l.length c w (by omega)).mono ?_
    rintro e w' ⟨rfl, rfl⟩
    go_wp2_with fail
    refine (drawStandardGluing a c l w (Ha.out.below hB0) Hb.out hsz).mono ?_
    rintro e w2 ⟨x, y, z, rfl, hx, hy, hz, hb1⟩
    have hB2 : Below w.heap.size w w2 := hB0.trans (hb1.mono hB0.size)
    clear hb1
    have hb3 : Below w2.heap.size w2 (w2.alloc (.cells #[.int .i64 x, .int .i64 y, .int .i64 z] 25)) := (Below.refl _ _).alloc (Nat.le_refl _) _
    have hB4 : Below w.heap.size w (w2.alloc (.cells #[.int .i64 x, .int .i64 y, .int .i64 z] 25)) := hB2.trans (hb3.mono hB2.size)
    clear hb3
    have HX5 := Lib.hid (show Blk (w2.alloc (.cells #[.int .i64 x, .int .i64 y, .int .i64 z] 25)) w2.heap.size 25 #[.int .i64 x, .int .i64 y, .int .i64 z] from Blk.new w2 _ _)
    have Hs := Lib.hid (three_small hx hy hz)
    clear hx hy hz
    have ciStandardGluing := fun W => impl_StandardGluing x y z W Hs.out
    have ciCapBorder := fun W => impl_CapBorder x y z W Hs.out
    have ciWithHandle := fun W => impl_WithHandle x y z W Hs.out
    have ciWithCrosscap := fun W => impl_WithCrosscap x y z W Hs.out
    have ciWithBorder := fun W => impl_WithBorder x y z W Hs.out
    have ciIsSurface := fun W => impl_IsSurface x y z W Hs.out
    have ciEulerNumber := fun W => impl_EulerNumber x y z W Hs.out
    have csStandardGluing := fun W => spec_StandardGluing x y z W Hs.out
    have csCapBorder := fun W => spec_CapBorder x y z W Hs.out
    have csWithHandle := fun W => spec_WithHandle x y z W Hs.out
    have csWithCrosscap := fun W => spec_WithCrosscap x y z W Hs.out
    have csWithBorder := fun W => spec_WithBorder x y z W Hs.out
    have csIsSurface := fun W => spec_IsSurface x y z W Hs.out
    have csEulerNumber := fun W => spec_EulerNumber x y z W Hs.out
    have ciSurfaceName := fun W (k : Tab W) => impl_SurfaceName x y z W k Hs.out
    have csSurfaceName := fun W => spec_SurfaceName x y z W Hs.out
    have ciTwice := fun W => impl_WithCrosscap (Surf.sum x y z 0 1 0).1 (Surf.sum x y z 0 1 0).2.1 (Surf.sum x y z 0 1 0).2.2 W (Surf.sum_small x y z 0 1 0)
    have ciBackS := fun W (a : Option Addr) (c : Nat) (k : GridAt W a (Surf.std x y z)) => impl_SurfaceOf a c (Surf.std x y z) W k (Nat.le_trans (Surf.std_tot x y z) (by decide))
    have csBackG := fun W (a : Option Addr) (c : Nat) (k : GridAt W a (Surf.std x y z)) => spec_IsGluing a c (Surf.std x y z) W k (Nat.le_trans (Surf.std_tot x y z) (by decide))
    have fStd := fun h : decide (Surf.stdOk x y z) = true => Surf.ofS_std (of_decide_eq_true h)
    have fName := named_shown x y z
    have fTwo := fun (h1 : decide (Surf.sumOk x y z 1 0 0) = true) (h2 : decide (Surf.sumOk x y z 0 1 0) = true) (h3 : 0 < y) => Surf.cross_twice (of_decide_eq_true h1) (of_decide_eq_true h2) h3
    have tR := Surf.std_tot x y z
    generalize Surf.sum (Surf.sum x y z 0 1 0).1 (Surf.sum x y z 0 1 0).2.1 (Surf.sum x y z 0 1 0).2.2 0 1 0 = C5 at *
    generalize decide (Surf.sumOk (Surf.sum x y z 0 1 0).1 (Surf.sum x y z 0 1 0).2.1 (Surf.sum x y z 0 1 0).2.2 0 1 0) = B5 at *
    generalize Surf.cap x y z = C1 at *
    generalize decide (Surf.capOk x y z) = B1 at *
    generalize Surf.sum x y z 1 0 0 = C2 at *
    generalize decide (Surf.sumOk x y z 1 0 0) = B2 at *
    generalize Surf.sum x y z 0 1 0 = C3 at *
    generalize decide (Surf.sumOk x y z 0 1 0) = B3 at *
    generalize Surf.sum x y z 0 0 1 = C4 at *
    generalize decide (Surf.sumOk x y z 0 0 1) = B4 at *
    generalize Surf.std x y z = R at *
    generalize decide (Surf.stdOk x y z) = Bok at *
    generalize decide (Surf.Is x y z) = Bi at *
    generalize Surf.euler x y z = Eu at *
    generalize Surf.named x y z = Txt at *
    have HciStandardGluing := Lib.hid ciStandardGluing; have HciCapBorder := Lib.hid ciCapBorder; have HciWithHandle := Lib.hid ciWithHandle; have HciWithCrosscap := Lib.hid ciWithCrosscap; have HciWithBorder := Lib.hid ciWithBorder; have HciIsSurface := Lib.hid ciIsSurface; have HciEulerNumber := Lib.hid ciEulerNumber; have HcsStandardGluing := Lib.hid csStandardGluing; have HcsCapBorder := Lib.hid csCapBorder; have HcsWithHandle := Lib.hid csWithHandle; have HcsWithCrosscap := Lib.hid csWithCrosscap; have HcsWithBorder := Lib.hid csWithBorder; have HcsIsSurface := Lib.hid csIsSurface; have HcsEulerNumber := Lib.hid csEulerNumber; have HciSurfaceName := Lib.hid ciSurfaceName; have HcsSurfaceName := Lib.hid csSurfaceName; have HciTwice := Lib.hid ciTwice; have HciBackS := Lib.hid ciBackS; have HcsBackG := Lib.hid csBackG; have HfStd := Lib.hid fStd; have HfName := Lib.hid fName; have HfTwo := Lib.hid fTwo
    clear ciStandardGluing ciCapBorder ciWithHandle ciWithCrosscap ciWithBorder ciIsSurface ciEulerNumber csStandardGluing csCapBorder csWithHandle csWithCrosscap csWithBorder csIsSurface csEulerNumber ciSurfaceName csSurfaceName ciTwice ciBackS csBackG fStd fName fTwo
    have HtR := Lib.hid tR; clear tR
    obtain ⟨q6, q7, q8, q9, q10, q11⟩ := HX5.out.six
    go_wp2_with fail
    refine (HciStandardGluing.out _).mono ?_
    rintro e w3 ⟨a12, c13, rfl, _, _, hf14, hb15⟩
    clear q6 q7 q8 q9 q10 q11
    have hB17 : Below w.heap.size w w3 := hB4.trans (hb15.mono hB4.size)
    have HX18 := Lib.hid (HX5.out.below hb15 HX5.out.lt)
    clear HX5
    have HG16 := Lib.hid hf14.grid
    clear hf14 hb15
    obtain ⟨q19, q20, q21, q22, q23, q24⟩ := HX18.out.six
    go_wp2_with fail
    refine (HcsStandardGluing.out _).mono ?_
    rintro e w4 ⟨a25, c26, rfl, _, _, hf27, hb28⟩
    clear q19 q20 q21 q22 q23 q24
    have hB30 : Below w.heap.size w w4 := hB17.trans (hb28.mono hB17.size)
    have HG31 := Lib.hid (HG16.out.below hb28)
    clear HG16
    have HX32 := Lib.hid (HX18.out.below hb28 HX18.out.lt)
    clear HX18
    have HG29 := Lib.hid hf27.grid
    clear hf27 hb28
    as_aux_lemma =>
    go_wp2_with fail
    refine (drawSumSurface a c l _ (Ha.out.below hB30) Hb.out hsz).mono ?_
    rintro e w5 ⟨p, q, r, p2, q2, r2, rfl, hp, hq, hr, hp2, hq2, hr2, hb33⟩
    have hB34 : Below w.heap.size w w5 := hB30.trans (hb33.mono hB30.size)
    have HG35 := Lib.hid (HG31.out.below hb33)
    clear HG31
    have HG36 := Lib.hid (HG29.out.below hb33)
    clear HG29
    have HX37 := Lib.hid (HX32.out.below hb33 HX32.out.lt)
    clear HX32
    clear hb33
    have hb38 : Below w5.heap.size w5 ((w5.alloc (.cells #[.int .i64 p, .int .i64 q, .int .i64 r] 25)).alloc (.cells #[.int .i64 p2, .int .i64 q2, .int .i64 r2] 25)) := ((Below.refl _ _).alloc (Nat.le_refl _) _).alloc (by simp) _
    have hB39 : Below w.heap.size w ((w5.alloc (.cells #[.int .i64 p, .int .i64 q, .int .i64 r] 25)).alloc (.cells #[.int .i64 p2, .int .i64 q2, .int .i64 r2] 25)) := hB34.trans (hb38.mono hB34.size)
    have HG40 := Lib.hid (HG35.out.below hb38)
    clear HG35
    have HG41 := Lib.hid (HG36.out.below hb38)
    clear HG36
    have HX42 := Lib.hid (HX37.out.below hb38 HX37.out.lt)
    clear HX37
    clear hb38
    have HX43 := Lib.hid (show Blk ((w5.alloc (.cells #[.int .i64 p, .int .i64 q, .int .i64 r] 25)).alloc (.cells #[.int .i64 p2, .int .i64 q2, .int .i64 r2] 25)) w5.heap.size 25 #[.int .i64 p, .int .i64 q, .int .i64 r] from (Blk.new w5 _ _).alloc _)
    have HX44 := Lib.hid (show Blk ((w5.alloc (.cells #[.int .i64 p, .int .i64 q, .int .i64 r] 25)).alloc (.cells #[.int .i64 p2, .int .i64 q2, .int .i64 r2] 25)) (w5.heap.size + 1) 25 #[.int .i64 p2, .int .i64 q2, .int .i64 r2] from Blk.new' (by simp) _ _)
    have Hsa := Lib.hid (three_small hp hq hr); have Hsb := Lib.hid (three_small hp2 hq2 hr2)
    clear hp hq hr hp2 hq2 hr2
    have ciSum := fun W => impl_SumSurface p q r p2 q2 r2 W Hsa.out Hsb.out
    have csSum := fun W => spec_SumSurface p q r p2 q2 r2 W Hsa.out Hsb.out
    have ciEA := fun W => impl_EulerNumber p q r W Hsa.out
    have ciEB := fun W => impl_EulerNumber p2 q2 r2 W Hsb.out
    have ciEX := fun W => impl_EulerNumber (Surf.sum p q r p2 q2 r2).1 (Surf.sum p q r p2 q2 r2).2.1 (Surf.sum p q r p2 q2 r2).2.2 W (Surf.sum_small p q r p2 q2 r2)
    have fSum := fun h : decide (Surf.sumOk p q r p2 q2 r2) = true => Surf.sum_euler (of_decide_eq_true h)
    have bA := Surf.euler_small p q r
    have bB := Surf.euler_small p2 q2 r2
    generalize Surf.euler (Surf.sum p q r p2 q2 r2).1 (Surf.sum p q r p2 q2 r2).2.1 (Surf.sum p q r p2 q2 r2).2.2 = EX at *
    generalize Surf.sum p q r p2 q2 r2 = C6 at *
    generalize decide (Surf.sumOk p q r p2 q2 r2) = B6 at *
    generalize Surf.euler p q r = EA at *
    generalize Surf.euler p2 q2 r2 = EB at *
    have HciSum := Lib.hid ciSum; have HcsSum := Lib.hid csSum; have HciEA := Lib.hid ciEA; have HciEB := Lib.hid ciEB; have HciEX := Lib.hid ciEX; have HfSum := Lib.hid fSum; have HbA := Lib.hid bA; have HbB := Lib.hid bB
    clear ciSum csSum ciEA ciEB ciEX fSum bA bB
    obtain ⟨q45, q46, q47, q48, q49, q50⟩ := HX43.out.six
    obtain ⟨q51, q52, q53, q54, q55, q56⟩ := HX44.out.six
    go_wp2_with fail
    refine (HciSum.out _).mono ?_
    rintro e w6 ⟨rfl, hb57⟩
    clear q45 q46 q47 q48 q49 q50 q51 q52 q53 q54 q55 q56
    have hB58 : Below w.heap.size w w6 := hB39.trans (hb57.mono hB39.size)
    have HG59 := Lib.hid (HG40.out.below hb57)
    clear HG40
    have HG60 := Lib.hid (HG41.out.below hb57)
    clear HG41
    have HX61 := Lib.hid (HX42.out.below hb57 HX42.out.lt)
    clear HX42
    have HX62 := Lib.hid (HX43.out.below hb57 HX43.out.lt)
    clear HX43
    have HX63 := Lib.hid (HX44.out.below hb57 HX44.out.lt)
    clear HX44
    clear hb57
    have hb64 : Below w6.heap.size w6 (w6.alloc (.cells #[.int .i64 C6.1, .int .i64 C6.2.1, .int .i64 C6.2.2] 25)) := (Below.refl _ _).alloc (Nat.le_refl _) _
    have hB65 : Below w.heap.size w (w6.alloc (.cells #[.int .i64 C6.1, .int .i64 C6.2.1, .int .i64 C6.2.2] 25)) := hB58.trans (hb64.mono hB58.size)
    have HG66 := Lib.hid (HG59.out.below hb64)
    clear HG59
    have HG67 := Lib.hid (HG60.out.below hb64)
    clear HG60
    have HX68 := Lib.hid (HX61.out.below hb64 HX61.out.lt)
    clear HX61
    have HX69 := Lib.hid (HX62.out.below hb64 HX62.out.lt)
    clear HX62
    have HX70 := Lib.hid (HX63.out.below hb64 HX63.out.lt)
    clear HX63
    clear hb64
    have HX71 := Lib.hid (show Blk (w6.alloc (.cells #[.int .i64 C6.1, .int .i64 C6.2.1, .int .i64 C6.2.2] 25)) w6.heap.size 25 #[.int .i64 C6.1, .int .i64 C6.2.1, .int .i64 C6.2.2] from Blk.new w6 _ _)
    obtain ⟨q72, q73, q74, q75, q76, q77⟩ := HX69.out.six
    obtain ⟨q78, q79, q80, q81, q82, q83⟩ := HX70.out.six
    go_wp2_with fail
    refine (HcsSum.out _).mono ?_
    rintro e w7 ⟨rfl, hb84⟩
    clear q72 q73 q74 q75 q76 q77 q78 q79 q80 q81 q82 q83
    have hB85 : Below w.heap.size w w7 := hB65.trans (hb84.mono hB65.size)
    have HG86 := Lib.hid (HG66.out.below hb84)
    clear HG66
    have HG87 := Lib.hid (HG67.out.below hb84)
    clear HG67
    have HX88 := Lib.hid (HX68.out.below hb84 HX68.out.lt)
    clear HX68
    have HX89 := Lib.hid (HX69.out.below hb84 HX69.out.lt)
    clear HX69
    have HX90 := Lib.hid (HX70.out.below hb84 HX70.out.lt)
    clear HX70
    have HX91 := Lib.hid (HX71.out.below hb84 HX71.out.lt)
    clear HX71
    clear hb84
    have hb92 : Below w7.heap.size w7 (w7.alloc (.cells #[.int .i64 C6.1, .int .i64 C6.2.1, .int .i64 C6.2.2] 25)) := (Below.refl _ _).alloc (Nat.le_refl _) _
    have hB93 : Below w.heap.size w (w7.alloc (.cells #[.int .i64 C6.1, .int .i64 C6.2.1, .int .i64 C6.2.2] 25)) := hB85.trans (hb92.mono hB85.size)
    have HG94 := Lib.hid (HG86.out.below hb92)
    clear HG86
    have HG95 := Lib.hid (HG87.out.below hb92)
    clear HG87
    have HX96 := Lib.hid (HX88.out.below hb92 HX88.out.lt)
    clear HX88
    have HX97 := Lib.hid (HX89.out.below hb92 HX89.out.lt)
    clear HX89
    have HX98 := Lib.hid (HX90.out.below hb92 HX90.out.lt)
    clear HX90
    have HX99 := Lib.hid (HX91.out.below hb92 HX91.out.lt)
    clear HX91
    clear hb92
    have HX100 := Lib.hid (show Blk (w7.alloc (.cells #[.int .i64 C6.1, .int .i64 C6.2.1, .int .i64 C6.2.2] 25)) w7.heap.size 25 #[.int .i64 C6.1, .int .i64 C6.2.1, .int .i64 C6.2.2] from Blk.new w7 _ _)
    go_wp2_with fail
    refine (drawSurfaceOf a c l _ (Ha.out.below hB93) Hb.out hsz).mono ?_
    rintro e w8 ⟨ag, cg, L, rfl, hG, hL1, hL2, hb101⟩
    have hB102 : Below w.heap.size w w8 := hB93.trans (hb101.mono hB93.size)
    have HG103 := Lib.hid (HG94.out.below hb101)
    clear HG94
    have HG104 := Lib.hid (HG95.out.below hb101)
    clear HG95
    have HX105 := Lib.hid (HX96.out.below hb101 HX96.out.lt)
    clear HX96
    have HX106 := Lib.hid (HX97.out.below hb101 HX97.out.lt)
    clear HX97
    have HX107 := Lib.hid (HX98.out.below hb101 HX98.out.lt)
    clear HX98
    have HX108 := Lib.hid (HX99.out.below hb101 HX99.out.lt)
    clear HX99
    have HX109 := Lib.hid (HX100.out.below hb101 HX100.out.lt)
    clear HX100
    have HG0 := Lib.hid hG.grid
    clear hb101 hG
    have htot : tot L ≤ 1048576 := by have := sumLen_bound hL2; unfold tot; omega
    clear hL1 hL2
    have ciOf := fun W (k : GridAt W ag L) => impl_SurfaceOf ag cg L W k htot
    have csOf := fun W (k : GridAt W ag L) => spec_SurfaceOf ag cg L W k htot
    have csEuD := fun W (k : GridAt W ag L) => spec_EulerOf ag cg L W k htot
    have ciEuU := fun W => impl_EulerNumber (Surf.ofS L).1 (Surf.ofS L).2.1 (Surf.ofS L).2.2 W (Surf.ofS_small L)
    have csIsU := fun W => spec_IsSurface (Surf.ofS L).1 (Surf.ofS L).2.1 (Surf.ofS L).2.2 W (Surf.ofS_small L)
    have fOf := fun h : decide (Glue.numParts L = 1) = true => (Surf.ofS_is (of_decide_eq_true h)).2
    have fOi := fun h : decide (Glue.numParts L = 1) = true => decide_eq_true (Surf.ofS_is (of_decide_eq_true h)).1
    generalize decide (Surf.Is (Surf.ofS L).1 (Surf.ofS L).2.1 (Surf.ofS L).2.2) = BU at *
    generalize Surf.euler (Surf.ofS L).1 (Surf.ofS L).2.1 (Surf.ofS L).2.2 = EU at *
    generalize Surf.ofS L = C7 at *
    generalize decide (Glue.numParts L = 1) = B7 at *
    generalize Glue.numEuler L = ED at *
    have HciOf := Lib.hid ciOf; have HcsOf := Lib.hid csOf; have HcsEuD := Lib.hid csEuD; have HciEuU := Lib.hid ciEuU; have HcsIsU := Lib.hid csIsU; have HfOf := Lib.hid fOf; have HfOi := Lib.hid fOi
    clear ciOf csOf csEuD ciEuU csIsU fOf fOi
    as_aux_lemma =>
    go_wp2_with fail
    refine (HciOf.out _ HG0.out).mono ?_
    rintro e w9 ⟨rfl, hb110⟩
    have hB111 : Below w.heap.size w w9 := hB102.trans (hb110.mono hB102.size)
    have HG112 := Lib.hid (HG103.out.below hb110)
    clear HG103
    have HG113 := Lib.hid (HG104.out.below hb110)
    clear HG104
    have HG114 := Lib.hid (HG0.out.below hb110)
    clear HG0
    have HX115 := Lib.hid (HX105.out.below hb110 HX105.out.lt)
    clear HX105
    have HX116 := Lib.hid (HX106.out.below hb110 HX106.out.lt)
    clear HX106
    have HX117 := Lib.hid (HX107.out.below hb110 HX107.out.lt)
    clear HX107
    have HX118 := Lib.hid (HX108.out.below hb110 HX108.out.lt)
    clear HX108
    have HX119 := Lib.hid (HX109.out.below hb110 HX109.out.lt)
    clear HX109
    clear hb110
    have hb120 : Below w9.heap.size w9 (w9.alloc (.cells #[.int .i64 C7.1, .int .i64 C7.2.1, .int .i64 C7.2.2] 25)) := (Below.refl _ _).alloc (Nat.le_refl _) _
    have hB121 : Below w.heap.size w (w9.alloc (.cells #[.int .i64 C7.1, .int .i64 C7.2.1, .int .i64 C7.2.2] 25)) := hB111.trans (hb120.mono hB111.size)
    have HG122 := Lib.hid (HG112.out.below hb120)
    clear HG112
    have HG123 := Lib.hid (HG113.out.below hb120)
    clear HG113
    have HG124 := Lib.hid (HG114.out.below hb120)
    clear HG114
    have HX125 := Lib.hid (HX115.out.below hb120 HX115.out.lt)
    clear HX115
    have HX126 := Lib.hid (HX116.out.below hb120 HX116.out.lt)
    clear HX116
    have HX127 := Lib.hid (HX117.out.below hb120 HX117.out.lt)
    clear HX117
    have HX128 := Lib.hid (HX118.out.below hb120 HX118.out.lt)
    clear HX118
    have HX129 := Lib.hid (HX119.out.below hb120 HX119.out.lt)
    clear HX119
    clear hb120
    have HX130 := Lib.hid (show Blk (w9.alloc (.cells #[.int .i64 C7.1, .int .i64 C7.2.1, .int .i64 C7.2.2] 25)) w9.heap.size 25 #[.int .i64 C7.1, .int .i64 C7.2.1, .int .i64 C7.2.2] from Blk.new w9 _ _)
    go_wp2_with fail
    refine (HcsOf.out _ HG124.out).mono ?_
    rintro e w10 ⟨rfl, hb131⟩
    have hB132 : Below w.heap.size w w10 := hB121.trans (hb131.mono hB121.size)
    have HG133 := Lib.hid (HG122.out.below hb131)
    clear HG122
    have HG134 := Lib.hid (HG123.out.below hb131)
    clear HG123
    have HG135 := Lib.hid (HG124.out.below hb131)
    clear HG124
    have HX136 := Lib.hid (HX125.out.below hb131 HX125.out.lt)
    clear HX125
    have HX137 := Lib.hid (HX126.out.below hb131 HX126.out.lt)
    clear HX126
    have HX138 := Lib.hid (HX127.out.below hb131 HX127.out.lt)
    clear HX127
    have HX139 := Lib.hid (HX128.out.below hb131 HX128.out.lt)
    clear HX128
    have HX140 := Lib.hid (HX129.out.below hb131 HX129.out.lt)
    clear HX129
    have HX141 := Lib.hid (HX130.out.below hb131 HX130.out.lt)
    clear HX130
    clear hb131
    have hb142 : Below w10.heap.size w10 (w10.alloc (.cells #[.int .i64 C7.1, .int .i64 C7.2.1, .int .i64 C7.2.2] 25)) := (Below.refl _ _).alloc (Nat.le_refl _) _
    have hB143 : Below w.heap.size w (w10.alloc (.cells #[.int .i64 C7.1, .int .i64 C7.2.1, .int .i64 C7.2.2] 25)) := hB132.trans (hb142.mono hB132.size)
    have HG144 := Lib.hid (HG133.out.below hb142)
    clear HG133
    have HG145 := Lib.hid (HG134.out.below hb142)
    clear HG134
    have HG146 := Lib.hid (HG135.out.below hb142)
    clear HG135
    have HX147 := Lib.hid (HX136.out.below hb142 HX136.out.lt)
    clear HX136
    have HX148 := Lib.hid (HX137.out.below hb142 HX137.out.lt)
    clear HX137
    have HX149 := Lib.hid (HX138.out.below hb142 HX138.out.lt)
    clear HX138
    have HX150 := Lib.hid (HX139.out.below hb142 HX139.out.lt)
    clear HX139
    have HX151 := Lib.hid (HX140.out.below hb142 HX140.out.lt)
    clear HX140
    have HX152 := Lib.hid (HX141.out.below hb142 HX141.out.lt)
    clear HX141
    clear hb142
    have HX153 := Lib.hid (show Blk (w10.alloc (.cells #[.int .i64 C7.1, .int .i64 C7.2.1, .int .i64 C7.2.2] 25)) w10.heap.size 25 #[.int .i64 C7.1, .int .i64 C7.2.1, .int .i64 C7.2.2] from Blk.new w10 _ _)
    obtain ⟨q154, q155, q156, q157, q158, q159⟩ := HX147.out.six
    go_wp2_with fail
    refine (HciCapBorder.out _).mono ?_
    rintro e w11 ⟨rfl, hb160⟩
    clear q154 q155 q156 q157 q158 q159
    have hB161 : Below w.heap.size w w11 := hB143.trans (hb160.mono hB143.size)
    have HG162 := Lib.hid (HG144.out.below hb160)
    clear HG144
    have HG163 := Lib.hid (HG145.out.below hb160)
    clear HG145
    have HG164 := Lib.hid (HG146.out.below hb160)
    clear HG146
    have HX165 := Lib.hid (HX147.out.below hb160 HX147.out.lt)
    clear HX147
    have HX166 := Lib.hid (HX148.out.below hb160 HX148.out.lt)
    clear HX148
    have HX167 := Lib.hid (HX149.out.below hb160 HX149.out.lt)
    clear HX149
    have HX168 := Lib.hid (HX150.out.below hb160 HX150.out.lt)
    clear HX150
    have HX169 := Lib.hid (HX151.out.below hb160 HX151.out.lt)
    clear HX151
    have HX170 := Lib.hid (HX152.out.below hb160 HX152.out.lt)
    clear HX152
    have HX171 := Lib.hid (HX153.out.below hb160 HX153.out.lt)
    clear HX153
    clear hb160
    have hb172 : Below w11.heap.size w11 (w11.alloc (.cells #[.int .i64 C1.1, .int .i64 C1.2.1, .int .i64 C1.2.2] 25)) := (Below.refl _ _).alloc (Nat.le_refl _) _
    have hB173 : Below w.heap.size w (w11.alloc (.cells #[.int .i64 C1.1, .int .i64 C1.2.1, .int .i64 C1.2.2] 25)) := hB161.trans (hb172.mono hB161.size)
    have HG174 := Lib.hid (HG162.out.below hb172)
    clear HG162
    have HG175 := Lib.hid (HG163.out.below hb172)
    clear HG163
    have HG176 := Lib.hid (HG164.out.below hb172)
    clear HG164
    have HX177 := Lib.hid (HX165.out.below hb172 HX165.out.lt)
    clear HX165
    have HX178 := Lib.hid (HX166.out.below hb172 HX166.out.lt)
    clear HX166
    have HX179 := Lib.hid (HX167.out.below hb172 HX167.out.lt)
    clear HX167
    have HX180 := Lib.hid (HX168.out.below hb172 HX168.out.lt)
    clear HX168
    have HX181 := Lib.hid (HX169.out.below hb172 HX169.out.lt)
    clear HX169
    have HX182 := Lib.hid (HX170.out.below hb172 HX170.out.lt)
    clear HX170
    have HX183 := Lib.hid (HX171.out.below hb172 HX171.out.lt)
    clear HX171
    clear hb172
    have HX184 := Lib.hid (show Blk (w11.alloc (.cells #[.int .i64 C1.1, .int .i64 C1.2.1, .int .i64 C1.2.2] 25)) w11.heap.size 25 #[.int .i64 C1.1, .int .i64 C1.2.1, .int .i64 C1.2.2] from Blk.new w11 _ _)
    obtain ⟨q185, q186, q187, q188, q189, q190⟩ := HX177.out.six
    go_wp2_with fail
    refine (HcsCapBorder.out _).mono ?_
    rintro e w12 ⟨rfl, hb191⟩
    clear q185 q186 q187 q188 q189 q190
    have hB192 : Below w.heap.size w w12 := hB173.trans (hb191.mono hB173.size)
    have HG193 := Lib.hid (HG174.out.below hb191)
    clear HG174
    have HG194 := Lib.hid (HG175.out.below hb191)
    clear HG175
    have HG195 := Lib.hid (HG176.out.below hb191)
    clear HG176
    have HX196 := Lib.hid (HX177.out.below hb191 HX177.out.lt)
    clear HX177
    have HX197 := Lib.hid (HX178.out.below hb191 HX178.out.lt)
    clear HX178
    have HX198 := Lib.hid (HX179.out.below hb191 HX179.out.lt)
    clear HX179
    have HX199 := Lib.hid (HX180.out.below hb191 HX180.out.lt)
    clear HX180
    have HX200 := Lib.hid (HX181.out.below hb191 HX181.out.lt)
    clear HX181
    have HX201 := Lib.hid (HX182.out.below hb191 HX182.out.lt)
    clear HX182
    have HX202 := Lib.hid (HX183.out.below hb191 HX183.out.lt)
    clear HX183
    have HX203 := Lib.hid (HX184.out.below hb191 HX184.out.lt)
    clear HX184
    clear hb191
    have hb204 : Below w12.heap.size w12 (w12.alloc (.cells #[.int .i64 C1.1, .int .i64 C1.2.1, .int .i64 C1.2.2] 25)) := (Below.refl _ _).alloc (Nat.le_refl _) _
    have hB205 : Below w.heap.size w (w12.alloc (.cells #[.int .i64 C1.1, .int .i64 C1.2.1, .int .i64 C1.2.2] 25)) := hB192.trans (hb204.mono hB192.size)
    have HG206 := Lib.hid (HG193.out.below hb204)
    clear HG193
    have HG207 := Lib.hid (HG194.out.below hb204)
    clear HG194
    have HG208 := Lib.hid (HG195.out.below hb204)
    clear HG195
    have HX209 := Lib.hid (HX196.out.below hb204 HX196.out.lt)
    clear HX196
    have HX210 := Lib.hid (HX197.out.below hb204 HX197.out.lt)
    clear HX197
    have HX211 := Lib.hid (HX198.out.below hb204 HX198.out.lt)
    clear HX198
    have HX212 := Lib.hid (HX199.out.below hb204 HX199.out.lt)
    clear HX199
    have HX213 := Lib.hid (HX200.out.below hb204 HX200.out.lt)
    clear HX200
    have HX214 := Lib.hid (HX201.out.below hb204 HX201.out.lt)
    clear HX201
    have HX215 := Lib.hid (HX202.out.below hb204 HX202.out.lt)
    clear HX202
    have HX216 := Lib.hid (HX203.out.below hb204 HX203.out.lt)
    clear HX203
    clear hb204
    have HX217 := Lib.hid (show Blk (w12.alloc (.cells #[.int .i64 C1.1, .int .i64 C1.2.1, .int .i64 C1.2.2] 25)) w12.heap.size 25 #[.int .i64 C1.1, .int .i64 C1.2.1, .int .i64 C1.2.2] from Blk.new w12 _ _)
    obtain ⟨q218, q219, q220, q221, q222, q223⟩ := HX209.out.six
    as_aux_lemma =>
    go_wp2_with fail
    refine (HciWithHandle.out _).mono ?_
    rintro e w13 ⟨rfl, hb224⟩
    clear q218 q219 q220 q221 q222 q223
    have hB225 : Below w.heap.size w w13 := hB205.trans (hb224.mono hB205.size)
    have HG226 := Lib.hid (HG206.out.below hb224)
    clear HG206
    have HG227 := Lib.hid (HG207.out.below hb224)
    clear HG207
    have HG228 := Lib.hid (HG208.out.below hb224)
    clear HG208
    have HX229 := Lib.hid (HX209.out.below hb224 HX209.out.lt)
    clear HX209
    have HX230 := Lib.hid (HX210.out.below hb224 HX210.out.lt)
    clear HX210
    have HX231 := Lib.hid (HX211.out.below hb224 HX211.out.lt)
    clear HX211
    have HX232 := Lib.hid (HX212.out.below hb224 HX212.out.lt)
    clear HX212
    have HX233 := Lib.hid (HX213.out.below hb224 HX213.out.lt)
    clear HX213
    have HX234 := Lib.hid (HX214.out.below hb224 HX214.out.lt)
    clear HX214
    have HX235 := Lib.hid (HX215.out.below hb224 HX215.out.lt)
    clear HX215
    have HX236 := Lib.hid (HX216.out.below hb224 HX216.out.lt)
    clear HX216
    have HX237 := Lib.hid (HX217.out.below hb224 HX217.out.lt)
    clear HX217
    clear hb224
    have hb238 : Below w13.heap.size w13 (w13.alloc (.cells #[.int .i64 C2.1, .int .i64 C2.2.1, .int .i64 C2.2.2] 25)) := (Below.refl _ _).alloc (Nat.le_refl _) _
    have hB239 : Below w.heap.size w (w13.alloc (.cells #[.int .i64 C2.1, .int .i64 C2.2.1, .int .i64 C2.2.2] 25)) := hB225.trans (hb238.mono hB225.size)
    have HG240 := Lib.hid (HG226.out.below hb238)
    clear HG226
    have HG241 := Lib.hid (HG227.out.below hb238)
    clear HG227
    have HG242 := Lib.hid (HG228.out.below hb238)
    clear HG228
    have HX243 := Lib.hid (HX229.out.below hb238 HX229.out.lt)
    clear HX229
    have HX244 := Lib.hid (HX230.out.below hb238 HX230.out.lt)
    clear HX230
    have HX245 := Lib.hid (HX231.out.below hb238 HX231.out.lt)
    clear HX231
    have HX246 := Lib.hid (HX232.out.below hb238 HX232.out.lt)
    clear HX232
    have HX247 := Lib.hid (HX233.out.below hb238 HX233.out.lt)
    clear HX233
    have HX248 := Lib.hid (HX234.out.below hb238 HX234.out.lt)
    clear HX234
    have HX249 := Lib.hid (HX235.out.below hb238 HX235.out.lt)
    clear HX235
    have HX250 := Lib.hid (HX236.out.below hb238 HX236.out.lt)
    clear HX236
    have HX251 := Lib.hid (HX237.out.below hb238 HX237.out.lt)
    clear HX237
    clear hb238
    have HX252 := Lib.hid (show Blk (w13.alloc (.cells #[.int .i64 C2.1, .int .i64 C2.2.1, .int .i64 C2.2.2] 25)) w13.heap.size 25 #[.int .i64 C2.1, .int .i64 C2.2.1, .int .i64 C2.2.2] from Blk.new w13 _ _)
    obtain ⟨q253, q254, q255, q256, q257, q258⟩ := HX243.out.six
    go_wp2_with fail
    refine (HcsWithHandle.out _).mono ?_
    rintro e w14 ⟨rfl, hb259⟩
    clear q253 q254 q255 q256 q257 q258
    have hB260 : Below w.heap.size w w14 := hB239.trans (hb259.mono hB239.size)
    have HG261 := Lib.hid (HG240.out.below hb259)
    clear HG240
    have HG262 := Lib.hid (HG241.out.below hb259)
    clear HG241
    have HG263 := Lib.hid (HG242.out.below hb259)
    clear HG242
    have HX264 := Lib.hid (HX243.out.below hb259 HX243.out.lt)
    clear HX243
    have HX265 := Lib.hid (HX244.out.below hb259 HX244.out.lt)
    clear HX244
    have HX266 := Lib.hid (HX245.out.below hb259 HX245.out.lt)
    clear HX245
    have HX267 := Lib.hid (HX246.out.below hb259 HX246.out.lt)
    clear HX246
    have HX268 := Lib.hid (HX247.out.below hb259 HX247.out.lt)
    clear HX247
    have HX269 := Lib.hid (HX248.out.below hb259 HX248.out.lt)
    clear HX248
    have HX270 := Lib.hid (HX249.out.below hb259 HX249.out.lt)
    clear HX249
    have HX271 := Lib.hid (HX250.out.below hb259 HX250.out.lt)
    clear HX250
    have HX272 := Lib.hid (HX251.out.below hb259 HX251.out.lt)
    clear HX251
    have HX273 := Lib.hid (HX252.out.below hb259 HX252.out.lt)
    clear HX252
    clear hb259
    have hb274 : Below w14.heap.size w14 (w14.alloc (.cells #[.int .i64 C2.1, .int .i64 C2.2.1, .int .i64 C2.2.2] 25)) := (Below.refl _ _).alloc (Nat.le_refl _) _
    have hB275 : Below w.heap.size w (w14.alloc (.cells #[.int .i64 C2.1, .int .i64 C2.2.1, .int .i64 C2.2.2] 25)) := hB260.trans (hb274.mono hB260.size)
    have HG276 := Lib.hid (HG261.out.below hb274)
    clear HG261
    have HG277 := Lib.hid (HG262.out.below hb274)
    clear HG262
    have HG278 := Lib.hid (HG263.out.below hb274)
    clear HG263
    have HX279 := Lib.hid (HX264.out.below hb274 HX264.out.lt)
    clear HX264
    have HX280 := Lib.hid (HX265.out.below hb274 HX265.out.lt)
    clear HX265
    have HX281 := Lib.hid (HX266.out.below hb274 HX266.out.lt)
    clear HX266
    have HX282 := Lib.hid (HX267.out.below hb274 HX267.out.lt)
    clear HX267
    have HX283 := Lib.hid (HX268.out.below hb274 HX268.out.lt)
    clear HX268
    have HX284 := Lib.hid (HX269.out.below hb274 HX269.out.lt)
    clear HX269
    have HX285 := Lib.hid (HX270.out.below hb274 HX270.out.lt)
    clear HX270
    have HX286 := Lib.hid (HX271.out.below hb274 HX271.out.lt)
    clear HX271
    have HX287 := Lib.hid (HX272.out.below hb274 HX272.out.lt)
    clear HX272
    have HX288 := Lib.hid (HX273.out.below hb274 HX273.out.lt)
    clear HX273
    clear hb274
    have HX289 := Lib.hid (show Blk (w14.alloc (.cells #[.int .i64 C2.1, .int .i64 C2.2.1, .int .i64 C2.2.2] 25)) w14.heap.size 25 #[.int .i64 C2.1, .int .i64 C2.2.1, .int .i64 C2.2.2] from Blk.new w14 _ _)
    obtain ⟨q290, q291, q292, q293, q294, q295⟩ := HX279.out.six
    go_wp2_with fail
    refine (HciWithCrosscap.out _).mono ?_
    rintro e w15 ⟨rfl, hb296⟩
    clear q290 q291 q292 q293 q294 q295
    have hB297 : Below w.heap.size w w15 := hB275.trans (hb296.mono hB275.size)
    have HG298 := Lib.hid (HG276.out.below hb296)
    clear HG276
    have HG299 := Lib.hid (HG277.out.below hb296)
    clear HG277
    have HG300 := Lib.hid (HG278.out.below hb296)
    clear HG278
    have HX301 := Lib.hid (HX279.out.below hb296 HX279.out.lt)
    clear HX279
    have HX302 := Lib.hid (HX280.out.below hb296 HX280.out.lt)
    clear HX280
    have HX303 := Lib.hid (HX281.out.below hb296 HX281.out.lt)
    clear HX281
    have HX304 := Lib.hid (HX282.out.below hb296 HX282.out.lt)
    clear HX282
    have HX305 := Lib.hid (HX283.out.below hb296 HX283.out.lt)
    clear HX283
    have HX306 := Lib.hid (HX284.out.below hb296 HX284.out.lt)
    clear HX284
    have HX307 := Lib.hid (HX285.out.below hb296 HX285.out.lt)
    clear HX285
    have HX308 := Lib.hid (HX286.out.below hb296 HX286.out.lt)
    clear HX286
    have HX309 := Lib.hid (HX287.out.below hb296 HX287.out.lt)
    clear HX287
    have HX310 := Lib.hid (HX288.out.below hb296 HX288.out.lt)
    clear HX288
    have HX311 := Lib.hid (HX289.out.below hb296 HX289.out.lt)
    clear HX289
    clear hb296
    have hb312 : Below w15.heap.size w15 (w15.alloc (.cells #[.int .i64 C3.1, .int .i64 C3.2.1, .int .i64 C3.2.2] 25)) := (Below.refl _ _).alloc (Nat.le_refl _) _
    have hB313 : Below w.heap.size w (w15.alloc (.cells #[.int .i64 C3.1, .int .i64 C3.2.1, .int .i64 C3.2.2] 25)) := hB297.trans (hb312.mono hB297.size)
    have HG314 := Lib.hid (HG298.out.below hb312)
    clear HG298
    have HG315 := Lib.hid (HG299.out.below hb312)
    clear HG299
    have HG316 := Lib.hid (HG300.out.below hb312)
    clear HG300
    have HX317 := Lib.hid (HX301.out.below hb312 HX301.out.lt)
    clear HX301
    have HX318 := Lib.hid (HX302.out.below hb312 HX302.out.lt)
    clear HX302
    have HX319 := Lib.hid (HX303.out.below hb312 HX303.out.lt)
    clear HX303
    have HX320 := Lib.hid (HX304.out.below hb312 HX304.out.lt)
    clear HX304
    have HX321 := Lib.hid (HX305.out.below hb312 HX305.out.lt)
    clear HX305
    have HX322 := Lib.hid (HX306.out.below hb312 HX306.out.lt)
    clear HX306
    have HX323 := Lib.hid (HX307.out.below hb312 HX307.out.lt)
    clear HX307
    have HX324 := Lib.hid (HX308.out.below hb312 HX308.out.lt)
    clear HX308
    have HX325 := Lib.hid (HX309.out.below hb312 HX309.out.lt)
    clear HX309
    have HX326 := Lib.hid (HX310.out.below hb312 HX310.out.lt)
    clear HX310
    have HX327 := Lib.hid (HX311.out.below hb312 HX311.out.lt)
    clear HX311
    clear hb312
    have HX328 := Lib.hid (show Blk (w15.alloc (.cells #[.int .i64 C3.1, .int .i64 C3.2.1, .int .i64 C3.2.2] 25)) w15.heap.size 25 #[.int .i64 C3.1, .int .i64 C3.2.1, .int .i64 C3.2.2] from Blk.new w15 _ _)
    obtain ⟨q329, q330, q331, q332, q333, q334⟩ := HX317.out.six
    go_wp2_with fail
    refine (HcsWithCrosscap.out _).mono ?_
    rintro e w16 ⟨rfl, hb335⟩
    clear q329 q330 q331 q332 q333 q334
    have hB336 : Below w.heap.size w w16 := hB313.trans (hb335.mono hB313.size)
    have HG337 := Lib.hid (HG314.out.below hb335)
    clear HG314
    have HG338 := Lib.hid (HG315.out.below hb335)
    clear HG315
    have HG339 := Lib.hid (HG316.out.below hb335)
    clear HG316
    have HX340 := Lib.hid (HX317.out.below hb335 HX317.out.lt)
    clear HX317
    have HX341 := Lib.hid (HX318.out.below hb335 HX318.out.lt)
    clear HX318
    have HX342 := Lib.hid (HX319.out.below hb335 HX319.out.lt)
    clear HX319
    have HX343 := Lib.hid (HX320.out.below hb335 HX320.out.lt)
    clear HX320
    have HX344 := Lib.hid (HX321.out.below hb335 HX321.out.lt)
    clear HX321
    have HX345 := Lib.hid (HX322.out.below hb335 HX322.out.lt)
    clear HX322
    have HX346 := Lib.hid (HX323.out.below hb335 HX323.out.lt)
    clear HX323
    have HX347 := Lib.hid (HX324.out.below hb335 HX324.out.lt)
    clear HX324
    have HX348 := Lib.hid (HX325.out.below hb335 HX325.out.lt)
    clear HX325
    have HX349 := Lib.hid (HX326.out.below hb335 HX326.out.lt)
    clear HX326
    have HX350 := Lib.hid (HX327.out.below hb335 HX327.out.lt)
    clear HX327
    have HX351 := Lib.hid (HX328.out.below hb335 HX328.out.lt)
    clear HX328
    clear hb335
    have hb352 : Below w16.heap.size w16 (w16.alloc (.cells #[.int .i64 C3.1, .int .i64 C3.2.1, .int .i64 C3.2.2] 25)) := (Below.refl _ _).alloc (Nat.le_refl _) _
    have hB353 : Below w.heap.size w (w16.alloc (.cells #[.int .i64 C3.1, .int .i64 C3.2.1, .int .i64 C3.2.2] 25)) := hB336.trans (hb352.mono hB336.size)
    have HG354 := Lib.hid (HG337.out.below hb352)
    clear HG337
    have HG355 := Lib.hid (HG338.out.below hb352)
    clear HG338
    have HG356 := Lib.hid (HG339.out.below hb352)
    clear HG339
    have HX357 := Lib.hid (HX340.out.below hb352 HX340.out.lt)
    clear HX340
    have HX358 := Lib.hid (HX341.out.below hb352 HX341.out.lt)
    clear HX341
    have HX359 := Lib.hid (HX342.out.below hb352 HX342.out.lt)
    clear HX342
    have HX360 := Lib.hid (HX343.out.below hb352 HX343.out.lt)
    clear HX343
    have HX361 := Lib.hid (HX344.out.below hb352 HX344.out.lt)
    clear HX344
    have HX362 := Lib.hid (HX345.out.below hb352 HX345.out.lt)
    clear HX345
    have HX363 := Lib.hid (HX346.out.below hb352 HX346.out.lt)
    clear HX346
    have HX364 := Lib.hid (HX347.out.below hb352 HX347.out.lt)
    clear HX347
    have HX365 := Lib.hid (HX348.out.below hb352 HX348.out.lt)
    clear HX348
    have HX366 := Lib.hid (HX349.out.below hb352 HX349.out.lt)
    clear HX349
    have HX367 := Lib.hid (HX350.out.below hb352 HX350.out.lt)
    clear HX350
    have HX368 := Lib.hid (HX351.out.below hb352 HX351.out.lt)
    clear HX351
    clear hb352
    have HX369 := Lib.hid (show Blk (w16.alloc (.cells #[.int .i64 C3.1, .int .i64 C3.2.1, .int .i64 C3.2.2] 25)) w16.heap.size 25 #[.int .i64 C3.1, .int .i64 C3.2.1, .int .i64 C3.2.2] from Blk.new w16 _ _)
    obtain ⟨q370, q371, q372, q373, q374, q375⟩ := HX357.out.six
    as_aux_lemma =>
    go_wp2_with fail
    refine (HciWithBorder.out _).mono ?_
    rintro e w17 ⟨rfl, hb376⟩
    clear q370 q371 q372 q373 q374 q375
    have hB377 : Below w.heap.size w w17 := hB353.trans (hb376.mono hB353.size)
    have HG378 := Lib.hid (HG354.out.below hb376)
    clear HG354
    have HG379 := Lib.hid (HG355.out.below hb376)
    clear HG355
    have HG380 := Lib.hid (HG356.out.below hb376)
    clear HG356
    have HX381 := Lib.hid (HX357.out.below hb376 HX357.out.lt)
    clear HX357
    have HX382 := Lib.hid (HX358.out.below hb376 HX358.out.lt)
    clear HX358
    have HX383 := Lib.hid (HX359.out.below hb376 HX359.out.lt)
    clear HX359
    have HX384 := Lib.hid (HX360.out.below hb376 HX360.out.lt)
    clear HX360
    have HX385 := Lib.hid (HX361.out.below hb376 HX361.out.lt)
    clear HX361
    have HX386 := Lib.hid (HX362.out.below hb376 HX362.out.lt)
    clear HX362
    have HX387 := Lib.hid (HX363.out.below hb376 HX363.out.lt)
    clear HX363
    have HX388 := Lib.hid (HX364.out.below hb376 HX364.out.lt)
    clear HX364
    have HX389 := Lib.hid (HX365.out.below hb376 HX365.out.lt)
    clear HX365
    have HX390 := Lib.hid (HX366.out.below hb376 HX366.out.lt)
    clear HX366
    have HX391 := Lib.hid (HX367.out.below hb376 HX367.out.lt)
    clear HX367
    have HX392 := Lib.hid (HX368.out.below hb376 HX368.out.lt)
    clear HX368
    have HX393 := Lib.hid (HX369.out.below hb376 HX369.out.lt)
    clear HX369
    clear hb376
    have hb394 : Below w17.heap.size w17 (w17.alloc (.cells #[.int .i64 C4.1, .int .i64 C4.2.1, .int .i64 C4.2.2] 25)) := (Below.refl _ _).alloc (Nat.le_refl _) _
    have hB395 : Below w.heap.size w (w17.alloc (.cells #[.int .i64 C4.1, .int .i64 C4.2.1, .int .i64 C4.2.2] 25)) := hB377.trans (hb394.mono hB377.size)
    have HG396 := Lib.hid (HG378.out.below hb394)
    clear HG378
    have HG397 := Lib.hid (HG379.out.below hb394)
    clear HG379
    have HG398 := Lib.hid (HG380.out.below hb394)
    clear HG380
    have HX399 := Lib.hid (HX381.out.below hb394 HX381.out.lt)
    clear HX381
    have HX400 := Lib.hid (HX382.out.below hb394 HX382.out.lt)
    clear HX382
    have HX401 := Lib.hid (HX383.out.below hb394 HX383.out.lt)
    clear HX383
    have HX402 := Lib.hid (HX384.out.below hb394 HX384.out.lt)
    clear HX384
    have HX403 := Lib.hid (HX385.out.below hb394 HX385.out.lt)
    clear HX385
    have HX404 := Lib.hid (HX386.out.below hb394 HX386.out.lt)
    clear HX386
    have HX405 := Lib.hid (HX387.out.below hb394 HX387.out.lt)
    clear HX387
    have HX406 := Lib.hid (HX388.out.below hb394 HX388.out.lt)
    clear HX388
    have HX407 := Lib.hid (HX389.out.below hb394 HX389.out.lt)
    clear HX389
    have HX408 := Lib.hid (HX390.out.below hb394 HX390.out.lt)
    clear HX390
    have HX409 := Lib.hid (HX391.out.below hb394 HX391.out.lt)
    clear HX391
    have HX410 := Lib.hid (HX392.out.below hb394 HX392.out.lt)
    clear HX392
    have HX411 := Lib.hid (HX393.out.below hb394 HX393.out.lt)
    clear HX393
    clear hb394
    have HX412 := Lib.hid (show Blk (w17.alloc (.cells #[.int .i64 C4.1, .int .i64 C4.2.1, .int .i64 C4.2.2] 25)) w17.heap.size 25 #[.int .i64 C4.1, .int .i64 C4.2.1, .int .i64 C4.2.2] from Blk.new w17 _ _)
    obtain ⟨q413, q414, q415, q416, q417, q418⟩ := HX399.out.six
    go_wp2_with fail
    refine (HcsWithBorder.out _).mono ?_
    rintro e w18 ⟨rfl, hb419⟩
    clear q413 q414 q415 q416 q417 q418
    have hB420 : Below w.heap.size w w18 := hB395.trans (hb419.mono hB395.size)
    have HG421 := Lib.hid (HG396.out.below hb419)
    clear HG396
    have HG422 := Lib.hid (HG397.out.below hb419)
    clear HG397
    have HG423 := Lib.hid (HG398.out.below hb419)
    clear HG398
    have HX424 := Lib.hid (HX399.out.below hb419 HX399.out.lt)
    clear HX399
    have HX425 := Lib.hid (HX400.out.below hb419 HX400.out.lt)
    clear HX400
    have HX426 := Lib.hid (HX401.out.below hb419 HX401.out.lt)
    clear HX401
    have HX427 := Lib.hid (HX402.out.below hb419 HX402.out.lt)
    clear HX402
    have HX428 := Lib.hid (HX403.out.below hb419 HX403.out.lt)
    clear HX403
    have HX429 := Lib.hid (HX404.out.below hb419 HX404.out.lt)
    clear HX404
    have HX430 := Lib.hid (HX405.out.below hb419 HX405.out.lt)
    clear HX405
    have HX431 := Lib.hid (HX406.out.below hb419 HX406.out.lt)
    clear HX406
    have HX432 := Lib.hid (HX407.out.below hb419 HX407.out.lt)
    clear HX407
    have HX433 := Lib.hid (HX408.out.below hb419 HX408.out.lt)
    clear HX408
    have HX434 := Lib.hid (HX409.out.below hb419 HX409.out.lt)
    clear HX409
    have HX435 := Lib.hid (HX410.out.below hb419 HX410.out.lt)
    clear HX410
    have HX436 := Lib.hid (HX411.out.below hb419 HX411.out.lt)
    clear HX411
    have HX437 := Lib.hid (HX412.out.below hb419 HX412.out.lt)
    clear HX412
    clear hb419
    have hb438 : Below w18.heap.size w18 (w18.alloc (.cells #[.int .i64 C4.1, .int .i64 C4.2.1, .int .i64 C4.2.2] 25)) := (Below.refl _ _).alloc (Nat.le_refl _) _
    have hB439 : Below w.heap.size w (w18.alloc (.cells #[.int .i64 C4.1, .int .i64 C4.2.1, .int .i64 C4.2.2] 25)) := hB420.trans (hb438.mono hB420.size)
    have HG440 := Lib.hid (HG421.out.below hb438)
    clear HG421
    have HG441 := Lib.hid (HG422.out.below hb438)
    clear HG422
    have HG442 := Lib.hid (HG423.out.below hb438)
    clear HG423
    have HX443 := Lib.hid (HX424.out.below hb438 HX424.out.lt)
    clear HX424
    have HX444 := Lib.hid (HX425.out.below hb438 HX425.out.lt)
    clear HX425
    have HX445 := Lib.hid (HX426.out.below hb438 HX426.out.lt)
    clear HX426
    have HX446 := Lib.hid (HX427.out.below hb438 HX427.out.lt)
    clear HX427
    have HX447 := Lib.hid (HX428.out.below hb438 HX428.out.lt)
    clear HX428
    have HX448 := Lib.hid (HX429.out.below hb438 HX429.out.lt)
    clear HX429
    have HX449 := Lib.hid (HX430.out.below hb438 HX430.out.lt)
    clear HX430
    have HX450 := Lib.hid (HX431.out.below hb438 HX431.out.lt)
    clear HX431
    have HX451 := Lib.hid (HX432.out.below hb438 HX432.out.lt)
    clear HX432
    have HX452 := Lib.hid (HX433.out.below hb438 HX433.out.lt)
    clear HX433
    have HX453 := Lib.hid (HX434.out.below hb438 HX434.out.lt)
    clear HX434
    have HX454 := Lib.hid (HX435.out.below hb438 HX435.out.lt)
    clear HX435
    have HX455 := Lib.hid (HX436.out.below hb438 HX436.out.lt)
    clear HX436
    have HX456 := Lib.hid (HX437.out.below hb438 HX437.out.lt)
    clear HX437
    clear hb438
    have HX457 := Lib.hid (show Blk (w18.alloc (.cells #[.int .i64 C4.1, .int .i64 C4.2.1, .int .i64 C4.2.2] 25)) w18.heap.size 25 #[.int .i64 C4.1, .int .i64 C4.2.1, .int .i64 C4.2.2] from Blk.new w18 _ _)
    go_upto_region 20 with fail
    obtain ⟨w19, hW0⟩ : ∃ W, W = (w18.alloc (.cells #[.int .i64 C4.1, .int .i64 C4.2.1, .int .i64 C4.2.2] 25)) := ⟨_, rfl⟩
    rw [← hW0]
    have HX458 := Lib.hid (show Blk w19 w2.heap.size 25 #[.int .i64 x, .int .i64 y, .int .i64 z] from by rw [hW0]; exact HX443.out)
    clear HX443
    have HX459 := Lib.hid (show Blk w19 w5.heap.size 25 #[.int .i64 p, .int .i64 q, .int .i64 r] from by rw [hW0]; exact HX444.out)
    clear HX444
    have HX460 := Lib.hid (show Blk w19 (w5.heap.size + 1) 25 #[.int .i64 p2, .int .i64 q2, .int .i64 r2] from by rw [hW0]; exact HX445.out)
    clear HX445
    have HX461 := Lib.hid (show Blk w19 w6.heap.size 25 #[.int .i64 C6.1, .int .i64 C6.2.1, .int .i64 C6.2.2] from by rw [hW0]; exact HX446.out)
    clear HX446
    have HX462 := Lib.hid (show Blk w19 w7.heap.size 25 #[.int .i64 C6.1, .int .i64 C6.2.1, .int .i64 C6.2.2] from by rw [hW0]; exact HX447.out)
    clear HX447
    have HX463 := Lib.hid (show Blk w19 w9.heap.size 25 #[.int .i64 C7.1, .int .i64 C7.2.1, .int .i64 C7.2.2] from by rw [hW0]; exact HX448.out)
    clear HX448
    have HX464 := Lib.hid (show Blk w19 w10.heap.size 25 #[.int .i64 C7.1, .int .i64 C7.2.1, .int .i64 C7.2.2] from by rw [hW0]; exact HX449.out)
    clear HX449
    have HX465 := Lib.hid (show Blk w19 w11.heap.size 25 #[.int .i64 C1.1, .int .i64 C1.2.1, .int .i64 C1.2.2] from by rw [hW0]; exact HX450.out)
    clear HX450
    have HX466 := Lib.hid (show Blk w19 w12.heap.size 25 #[.int .i64 C1.1, .int .i64 C1.2.1, .int .i64 C1.2.2] from by rw [hW0]; exact HX451.out)
    clear HX451
    have HX467 := Lib.hid (show Blk w19 w13.heap.size 25 #[.int .i64 C2.1, .int .i64 C2.2.1, .int .i64 C2.2.2] from by rw [hW0]; exact HX452.out)
    clear HX452
    have HX468 := Lib.hid (show Blk w19 w14.heap.size 25 #[.int .i64 C2.1, .int .i64 C2.2.1, .int .i64 C2.2.2] from by rw [hW0]; exact HX453.out)
    clear HX453
    have HX469 := Lib.hid (show Blk w19 w15.heap.size 25 #[.int .i64 C3.1, .int .i64 C3.2.1, .int .i64 C3.2.2] from by rw [hW0]; exact HX454.out)
    clear HX454
    have HX470 := Lib.hid (show Blk w19 w16.heap.size 25 #[.int .i64 C3.1, .int .i64 C3.2.1, .int .i64 C3.2.2] from by rw [hW0]; exact HX455.out)
    clear HX455
    have HX471 := Lib.hid (show Blk w19 w17.heap.size 25 #[.int .i64 C4.1, .int .i64 C4.2.1, .int .i64 C4.2.2] from by rw [hW0]; exact HX456.out)
    clear HX456
    have HX472 := Lib.hid (show Blk w19 w18.heap.size 25 #[.int .i64 C4.1, .int .i64 C4.2.1, .int .i64 C4.2.2] from by rw [hW0]; exact HX457.out)
    clear HX457
    have HG473 := Lib.hid (show GridAt w19 _ _ from by rw [hW0]; exact HG440.out)
    clear HG440
    have HG474 := Lib.hid (show GridAt w19 _ _ from by rw [hW0]; exact HG441.out)
    clear HG441
    have HG475 := Lib.hid (show GridAt w19 _ _ from by rw [hW0]; exact HG442.out)
    clear HG442
    have hB476 : Below w.heap.size w w19 := by rw [hW0]; exact hB439
    clear hW0
    generalize w2.heap.size = Ns at *
    generalize w5.heap.size = Na at *
    generalize w6.heap.size = Nx at *
    generalize w7.heap.size = Ny at *
    generalize w9.heap.size = Nu at *
    generalize w10.heap.size = Nv at *
    generalize w11.heap.size = Nc at *
    generalize w12.heap.size = Ne at *
    generalize w13.heap.size = Nh at *
    generalize w14.heap.size = Ni at *
    generalize w15.heap.size = Nm at *
    generalize w16.heap.size = Nn at *
    generalize w17.heap.size = Npp at *
    generalize w18.heap.size = Nqq at *
    have mk1 : ∀ w2, Below w19.heap.size w19 w2 → (w2.cell? ⟨Nx, 0, none⟩ = some (.int .i64 C6.1) ∧ w2.cell? ⟨Nx, 1, none⟩ = some (.int .i64 C6.2.1) ∧ w2.cell? ⟨Nx, 2, none⟩ = some (.int .i64 C6.2.2) ∧ w2.cell? ⟨Ny, 0, none⟩ = some (.int .i64 C6.1) ∧ w2.cell? ⟨Ny, 1, none⟩ = some (.int .i64 C6.2.1) ∧ w2.cell? ⟨Ny, 2, none⟩ = some (.int .i64 C6.2.2) ∧ w2.cell? ⟨Nu, 0, none⟩ = some (.int .i64 C7.1) ∧ w2.cell? ⟨Nu, 1, none⟩ = some (.int .i64 C7.2.1) ∧ w2.cell? ⟨Nu, 2, none⟩ = some (.int .i64 C7.2.2) ∧ w2.cell? ⟨Nv, 0, none⟩ = some (.int .i64 C7.1) ∧ w2.cell? ⟨Nv, 1, none⟩ = some (.int .i64 C7.2.1) ∧ w2.cell? ⟨Nv, 2, none⟩ = some (.int .i64 C7.2.2) ∧ w2.cell? ⟨Nc, 0, none⟩ = some (.int .i64 C1.1) ∧ w2.cell? ⟨Nc, 1, none⟩ = some (.int .i64 C1.2.1) ∧ w2.cell? ⟨Nc, 2, none⟩ = some (.int .i64 C1.2.2) ∧ w2.cell? ⟨Ne, 0, none⟩ = some (.int .i64 C1.1) ∧ w2.cell? ⟨Ne, 1, none⟩ = some (.int .i64 C1.2.1) ∧ w2.cell? ⟨Ne, 2, none⟩ = some (.int .i64 C1.2.2) ∧ w2.cell? ⟨Nh, 0, none⟩ = some (.int .i64 C2.1) ∧ w2.cell? ⟨Nh, 1, none⟩ = some (.int .i64 C2.2.1) ∧ w2.cell? ⟨Nh, 2, none⟩ = some (.int .i64 C2.2.2) ∧ w2.cell? ⟨Ni, 0, none⟩ = some (.int .i64 C2.1) ∧ w2.cell? ⟨Ni, 1, none⟩ = some (.int .i64 C2.2.1) ∧ w2.cell? ⟨Ni, 2, none⟩ = some (.int .i64 C2.2.2) ∧ w2.cell? ⟨Nm, 0, none⟩ = some (.int .i64 C3.1) ∧ w2.cell? ⟨Nm, 1, none⟩ = some (.int .i64 C3.2.1) ∧ w2.cell? ⟨Nm, 2, none⟩ = some (.int .i64 C3.2.2) ∧ w2.cell? ⟨Nn, 0, none⟩ = some (.int .i64 C3.1) ∧ w2.cell? ⟨Nn, 1, none⟩ = some (.int .i64 C3.2.1) ∧ w2.cell? ⟨Nn, 2, none⟩ = some (.int .i64 C3.2.2) ∧ w2.cell? ⟨Npp, 0, none⟩ = some (.int .i64 C4.1) ∧ w2.cell? ⟨Npp, 1, none⟩ = some (.int .i64 C4.2.1) ∧ w2.cell? ⟨Npp, 2, none⟩ = some (.int .i64 C4.2.2) ∧ w2.cell? ⟨Nqq, 0, none⟩ = some (.int .i64 C4.1) ∧ w2.cell? ⟨Nqq, 1, none⟩ = some (.int .i64 C4.2.1) ∧ w2.cell? ⟨Nqq, 2, none⟩ = some (.int .i64 C4.2.2) ∧ w2.cell? ⟨Ns, 0, none⟩ = some (.int .i64 x) ∧ w2.cell? ⟨Ns, 1, none⟩ = some (.int .i64 y) ∧ w2.cell? ⟨Ns, 2, none⟩ = some (.int .i64 z) ∧ Below w19.heap.size w19 w2) := fun w2 hw => by
      have bkx := HX461.out.below hw HX461.out.lt
      have bky := HX462.out.below hw HX462.out.lt
      have bku := HX463.out.below hw HX463.out.lt
      have bkv := HX464.out.below hw HX464.out.lt
      have bkc := HX465.out.below hw HX465.out.lt
      have bke := HX466.out.below hw HX466.out.lt
      have bkh := HX467.out.below hw HX467.out.lt
      have bki := HX468.out.below hw HX468.out.lt
      have bkm := HX469.out.below hw HX469.out.lt
      have bkn := HX470.out.below hw HX470.out.lt
      have bkpp := HX471.out.below hw HX471.out.lt
      have bkqq := HX472.out.below hw HX472.out.lt
      have bks := HX458.out.below hw HX458.out.lt
      exact ⟨bkx.cell 0, bkx.cell 1, bkx.cell 2, bky.cell 0, bky.cell 1, bky.cell 2, bku.cell 0, bku.cell 1, bku.cell 2, bkv.cell 0, bkv.cell 1, bkv.cell 2, bkc.cell 0, bkc.cell 1, bkc.cell 2, bke.cell 0, bke.cell 1, bke.cell 2, bkh.cell 0, bkh.cell 1, bkh.cell 2, bki.cell 0, bki.cell 1, bki.cell 2, bkm.cell 0, bkm.cell 1, bkm.cell 2, bkn.cell 0, bkn.cell 1, bkn.cell 2, bkpp.cell 0, bkpp.cell 1, bkpp.cell 2, bkqq.cell 0, bkqq.cell 1, bkqq.cell 2, bks.cell 0, bks.cell 1, bks.cell 2, hw⟩
    have Hmk1 := Lib.hid mk1; clear mk1
    have pr1 : ∀ w2, (w2.cell? ⟨Nx, 0, none⟩ = some (.int .i64 C6.1) ∧ w2.cell? ⟨Nx, 1, none⟩ = some (.int .i64 C6.2.1) ∧ w2.cell? ⟨Nx, 2, none⟩ = some (.int .i64 C6.2.2) ∧ w2.cell? ⟨Ny, 0, none⟩ = some (.int .i64 C6.1) ∧ w2.cell? ⟨Ny, 1, none⟩ = some (.int .i64 C6.2.1) ∧ w2.cell? ⟨Ny, 2, none⟩ = some (.int .i64 C6.2.2) ∧ w2.cell? ⟨Nu, 0, none⟩ = some (.int .i64 C7.1) ∧ w2.cell? ⟨Nu, 1, none⟩ = some (.int .i64 C7.2.1) ∧ w2.cell? ⟨Nu, 2, none⟩ = some (.int .i64 C7.2.2) ∧ w2.cell? ⟨Nv, 0, none⟩ = some (.int .i64 C7.1) ∧ w2.cell? ⟨Nv, 1, none⟩ = some (.int .i64 C7.2.1) ∧ w2.cell? ⟨Nv, 2, none⟩ = some (.int .i64 C7.2.2) ∧ w2.cell? ⟨Nc, 0, none⟩ = some (.int .i64 C1.1) ∧ w2.cell? ⟨Nc, 1, none⟩ = some (.int .i64 C1.2.1) ∧ w2.cell? ⟨Nc, 2, none⟩ = some (.int .i64 C1.2.2) ∧ w2.cell? ⟨Ne, 0, none⟩ = some (.int .i64 C1.1) ∧ w2.cell? ⟨Ne, 1, none⟩ = some (.int .i64 C1.2.1) ∧ w2.cell? ⟨Ne, 2, none⟩ = some (.int .i64 C1.2.2) ∧ w2.cell? ⟨Nh, 0, none⟩ = some (.int .i64 C2.1) ∧ w2.cell? ⟨Nh, 1, none⟩ = some (.int .i64 C2.2.1) ∧ w2.cell? ⟨Nh, 2, none⟩ = some (.int .i64 C2.2.2) ∧ w2.cell? ⟨Ni, 0, none⟩ = some (.int .i64 C2.1) ∧ w2.cell? ⟨Ni, 1, none⟩ = some (.int .i64 C2.2.1) ∧ w2.cell? ⟨Ni, 2, none⟩ = some (.int .i64 C2.2.2) ∧ w2.cell? ⟨Nm, 0, none⟩ = some (.int .i64 C3.1) ∧ w2.cell? ⟨Nm, 1, none⟩ = some (.int .i64 C3.2.1) ∧ w2.cell? ⟨Nm, 2, none⟩ = some (.int .i64 C3.2.2) ∧ w2.cell? ⟨Nn, 0, none⟩ = some (.int .i64 C3.1) ∧ w2.cell? ⟨Nn, 1, none⟩ = some (.int .i64 C3.2.1) ∧ w2.cell? ⟨Nn, 2, none⟩ = some (.int .i64 C3.2.2) ∧ w2.cell? ⟨Npp, 0, none⟩ = some (.int .i64 C4.1) ∧ w2.cell? ⟨Npp, 1, none⟩ = some (.int .i64 C4.2.1) ∧ w2.cell? ⟨Npp, 2, none⟩ = some (.int .i64 C4.2.2) ∧ w2.cell? ⟨Nqq, 0, none⟩ = some (.int .i64 C4.1) ∧ w2.cell? ⟨Nqq, 1, none⟩ = some (.int .i64 C4.2.1) ∧ w2.cell? ⟨Nqq, 2, none⟩ = some (.int .i64 C4.2.2) ∧ w2.cell? ⟨Ns, 0, none⟩ = some (.int .i64 x) ∧ w2.cell? ⟨Ns, 1, none⟩ = some (.int .i64 y) ∧ w2.cell? ⟨Ns, 2, none⟩ = some (.int .i64 z) ∧ Below w19.heap.size w19 w2) → Below w19.heap.size w19 w2 := fun w2 h => h.2.2.2.2.2.2.2.2.2.2.2.2.2.2.2.2.2.2.2.2.2.2.2.2.2.2.2.2.2.2.2.2.2.2.2.2.2.2.2
    have Hpr1 := Lib.hid pr1; clear pr1
    skip
    go_cut [211] from 39 (fun s211 wx => s211 = .bool false ∧ Below w19.heap.size w19 wx)
    case first => as_aux_lemma =>
      clear HciStandardGluing HciCapBorder HciWithHandle HciWithCrosscap HciWithBorder HcsStandardGluing HcsCapBorder HcsWithHandle HcsWithCrosscap HcsWithBorder HciTwice HciBackS HcsBackG HfStd HfName HfTwo HciSum HcsSum HciEA HciEB HciEX HfSum HbA HbB HciOf HcsOf HcsEuD HciEuU HcsIsU HfOf HfOi HX458 HX459 HX460 HX461 HX462 HX463 HX464 HX465 HX466 HX467 HX468 HX469 HX470 HX471 HX472 HG475 Hsa Hsb Hb Ha htot hsz hd hbig
      simp only [List.append_eq, List.cons_append, List.nil_append]
      refine held_begin (S := fun w' => w'.cell? ⟨Nx, 0, none⟩ = some (.int .i64 C6.1) ∧ w'.cell? ⟨Nx, 1, none⟩ = some (.int .i64 C6.2.1) ∧ w'.cell? ⟨Nx, 2, none⟩ = some (.int .i64 C6.2.2) ∧ w'.cell? ⟨Ny, 0, none⟩ = some (.int .i64 C6.1) ∧ w'.cell? ⟨Ny, 1, none⟩ = some (.int .i64 C6.2.1) ∧ w'.cell? ⟨Ny, 2, none⟩ = some (.int .i64 C6.2.2) ∧ w'.cell? ⟨Nu, 0, none⟩ = some (.int .i64 C7.1) ∧ w'.cell? ⟨Nu, 1, none⟩ = some (.int .i64 C7.2.1) ∧ w'.cell? ⟨Nu, 2, none⟩ = some (.int .i64 C7.2.2) ∧ w'.cell? ⟨Nv, 0, none⟩ = some (.int .i64 C7.1) ∧ w'.cell? ⟨Nv, 1, none⟩ = some (.int .i64 C7.2.1) ∧ w'.cell? ⟨Nv, 2, none⟩ = some (.int .i64 C7.2.2) ∧ w'.cell? ⟨Nc, 0, none⟩ = some (.int .i64 C1.1) ∧ w'.cell? ⟨Nc, 1, none⟩ = some (.int .i64 C1.2.1) ∧ w'.cell? ⟨Nc, 2, none⟩ = some (.int .i64 C1.2.2) ∧ w'.cell? ⟨Ne, 0, none⟩ = some (.int .i64 C1.1) ∧ w'.cell? ⟨Ne, 1, none⟩ = some (.int .i64 C1.2.1) ∧ w'.cell? ⟨Ne, 2, none⟩ = some (.int .i64 C1.2.2) ∧ w'.cell? ⟨Nh, 0, none⟩ = some (.int .i64 C2.1) ∧ w'.cell? ⟨Nh, 1, none⟩ = some (.int .i64 C2.2.1) ∧ w'.cell? ⟨Nh, 2, none⟩ = some (.int .i64 C2.2.2) ∧ w'.cell? ⟨Ni, 0, none⟩ = some (.int .i64 C2.1) ∧ w'.cell? ⟨Ni, 1, none⟩ = some (.int .i64 C2.2.1) ∧ w'.cell? ⟨Ni, 2, none⟩ = some (.int .i64 C2.2.2) ∧ w'.cell? ⟨Nm, 0, none⟩ = some (.int .i64 C3.1) ∧ w'.cell? ⟨Nm, 1, none⟩ = some (.int .i64 C3.2.1) ∧ w'.cell? ⟨Nm, 2, none⟩ = some (.int .i64 C3.2.2) ∧ w'.cell? ⟨Nn, 0, none⟩ = some (.int .i64 C3.1) ∧ w'.cell? ⟨Nn, 1, none⟩ = some (.int .i64 C3.2.1) ∧ w'.cell? ⟨Nn, 2, none⟩ = some (.int .i64 C3.2.2) ∧ w'.cell? ⟨Npp, 0, none⟩ = some (.int .i64 C4.1) ∧ w'.cell? ⟨Npp, 1, none⟩ = some (.int .i64 C4.2.1) ∧ w'.cell? ⟨Npp, 2, none⟩ = some (.int .i64 C4.2.2) ∧ w'.cell? ⟨Nqq, 0, none⟩ = some (.int .i64 C4.1) ∧ w'.cell? ⟨Nqq, 1, none⟩ = some (.int .i64 C4.2.1) ∧ w'.cell? ⟨Nqq, 2, none⟩ = some (.int .i64 C4.2.2) ∧ w'.cell? ⟨Ns, 0, none⟩ = some (.int .i64 x) ∧ w'.cell? ⟨Ns, 1, none⟩ = some (.int .i64 y) ∧ w'.cell? ⟨Ns, 2, none⟩ = some (.int .i64 z) ∧ Below w19.heap.size w19 w') 90 (by kernel_rfl) rfl ?_ (fun hHeld => ?_)
      · exact Hmk1.out _ (Below.drew (Below.refl _ _))
      try simp only [Array.replicate]
      refine held_take (i := 0) (v := ?_) rfl (by as_aux_lemma => kernel_rfl) (fun _ _ _ h => h) (by rfl) ?_ hHeld ?_
      rotate_left; · (intro w' _; go_simp; try with_reducible rfl)
      try simp only [Act.put, List.setIfInBounds_toArray, List.set_cons_zero, List.set_cons_succ]
      refine held_take (i := 1) (v := ?_) rfl (by as_aux_lemma => kernel_rfl) (fun _ _ _ h => h) (by rfl) ?_ hHeld ?_
      rotate_left; · (intro w' _; go_simp; try with_reducible rfl)
      try simp only [Act.put, List.setIfInBounds_toArray, List.set_cons_zero, List.set_cons_succ]
      refine held_take (i := 2) (v := ?_) rfl (by as_aux_lemma => kernel_rfl) (fun _ _ _ h => h) (by rfl) ?_ hHeld ?_
      rotate_left; · (intro w' _; go_simp; try with_reducible rfl)
      try simp only [Act.put, List.setIfInBounds_toArray, List.set_cons_zero, List.set_cons_succ]
      refine held_take (i := 3) (v := ?_) rfl (by as_aux_lemma => kernel_rfl) (fun _ _ _ h => h) (by rfl) ?_ hHeld ?_
      rotate_left; · (intro w' _; go_simp; try with_reducible rfl)
      try simp only [Act.put, List.setIfInBounds_toArray, List.set_cons_zero, List.set_cons_succ]
      refine held_take (i := 4) (v := ?_) rfl (by as_aux_lemma => kernel_rfl) (fun _ _ _ h => h) (by rfl) ?_ hHeld ?_
      rotate_left; · (intro w' _; go_simp; try with_reducible rfl)
      try simp only [Act.put, List.setIfInBounds_toArray, List.set_cons_zero, List.set_cons_succ]
      refine held_take (i := 5) (v := ?_) rfl (by as_aux_lemma => kernel_rfl) (fun _ _ _ h => h) (by rfl) ?_ hHeld ?_
      rotate_left; · (intro w' _; go_simp; try with_reducible rfl)
      try simp only [Act.put, List.setIfInBounds_toArray, List.set_cons_zero, List.set_cons_succ]
      refine held_one (i := 6) rfl (by as_aux_lemma => kernel_rfl) (fun K hK => ?_)
      go_simp
      go_at_call 22
      refine (sameLists_eq a12 a25 c13 c26 R _ (HG473.out.below (Hpr1.out _ hHeld)) (HG474.out.below (Hpr1.out _ hHeld)) (Nat.le_trans HtR.out (by decide))).mono ?_
      rintro e v477 ⟨rfl, hb478⟩
      have hS479 := held_on Hmk1.out hHeld (fun h => Hpr1.out _ h) hb478
      clear hb478 hHeld
      go_simp
      refine hK.out _ _ hS479 (fun hHeld480 => ?_)
      clear hK K hS479
      try simp only [Act.put, List.setIfInBounds_toArray, List.set_cons_zero, List.set_cons_succ]
      refine held_take (i := 7) (v := ?_) rfl (by as_aux_lemma => kernel_rfl) (fun _ _ _ h => h) (by rfl) ?_ hHeld480 ?_
      rotate_left; · (intro w' _; go_simp; try with_reducible rfl)
      try simp only [Act.put, List.setIfInBounds_toArray, List.set_cons_zero, List.set_cons_succ]
      refine held_take (i := 8) (v := ?_) rfl (by as_aux_lemma => kernel_rfl) (fun _ _ _ h => h) (by rfl) ?_ hHeld480 ?_
      rotate_left; · (intro w' _; go_simp; try with_reducible rfl)
      try simp only [Act.put, List.setIfInBounds_toArray, List.set_cons_zero, List.set_cons_succ]
      refine held_take (i := 9) (v := ?_) rfl (by as_aux_lemma => kernel_rfl) (fun _ _ _ h => h) (by rfl) ?_ hHeld480 ?_
      rotate_left; · (intro w' _; go_simp; try with_reducible rfl)
      try simp only [Act.put, List.setIfInBounds_toArray, List.set_cons_zero, List.set_cons_succ]
      refine held_take (i := 10) (v := ?_) rfl (by as_aux_lemma => kernel_rfl) (fun _ _ _ h => h) (by rfl) ?_ hHeld480 ?_
      rotate_left; · (intro w' _; go_simp; try with_reducible rfl)
      try simp only [Act.put, List.setIfInBounds_toArray, List.set_cons_zero, List.set_cons_succ]
      as_aux_lemma =>
      refine held_take (i := 11) (v := ?_) rfl (by as_aux_lemma => kernel_rfl) (fun _ _ _ h => h) (by rfl) ?_ hHeld480 ?_
      rotate_left; · (intro w' _; go_simp; try with_reducible rfl)
      try simp only [Act.put, List.setIfInBounds_toArray, List.set_cons_zero, List.set_cons_succ]
      refine held_take (i := 12) (v := ?_) rfl (by as_aux_lemma => kernel_rfl) (fun _ _ _ h => h) (by rfl) ?_ hHeld480 ?_
      rotate_left; · (intro w' _; go_simp; try with_reducible rfl)
      try simp only [Act.put, List.setIfInBounds_toArray, List.set_cons_zero, List.set_cons_succ]
      refine held_take (i := 13) (v := ?_) rfl (by as_aux_lemma => kernel_rfl) (fun _ _ _ h => h) (by rfl) ?_ hHeld480 ?_
      rotate_left; · (intro w' _; go_simp; try with_reducible rfl)
      try simp only [Act.put, List.setIfInBounds_toArray, List.set_cons_zero, List.set_cons_succ]
      refine held_take (i := 14) (v := ?_) rfl (by as_aux_lemma => kernel_rfl) (fun _ _ _ h => h) (by rfl) ?_ hHeld480 ?_
      rotate_left; · (intro w' _; go_simp; try with_reducible rfl)
      try simp only [Act.put, List.setIfInBounds_toArray, List.set_cons_zero, List.set_cons_succ]
      refine held_take (i := 15) (v := ?_) rfl (by as_aux_lemma => kernel_rfl) (fun _ _ _ h => h) (by rfl) ?_ hHeld480 ?_
      rotate_left; · (intro w' hSw; have k0 := hSw.1; have k1 := hSw.2.1; have k2 := hSw.2.2.1; clear hSw; go_simp; try with_reducible rfl)
      try simp only [Act.put, List.setIfInBounds_toArray, List.set_cons_zero, List.set_cons_succ]
      refine held_take (i := 16) (v := ?_) rfl (by as_aux_lemma => kernel_rfl) (fun _ _ _ h => h) (by rfl) ?_ hHeld480 ?_
      rotate_left; · (intro w' hSw; have k0 := hSw.2.2.2.1; have k1 := hSw.2.2.2.2.1; have k2 := hSw.2.2.2.2.2.1; clear hSw; go_simp; try with_reducible rfl)
      try simp only [Act.put, List.setIfInBounds_toArray, List.set_cons_zero, List.set_cons_succ]
      refine held_take (i := 17) (v := ?_) rfl (by as_aux_lemma => kernel_rfl) (fun _ _ _ h => h) (by rfl) ?_ hHeld480 ?_
      rotate_left; · (intro w' _; go_simp; try with_reducible rfl)
      try simp only [Act.put, List.setIfInBounds_toArray, List.set_cons_zero, List.set_cons_succ]
      refine held_take (i := 18) (v := ?_) rfl (by as_aux_lemma => kernel_rfl) (fun _ _ _ h => h) (by rfl) ?_ hHeld480 ?_
      rotate_left; · (intro w' _; go_simp; try with_reducible rfl)
      try simp only [Act.put, List.setIfInBounds_toArray, List.set_cons_zero, List.set_cons_succ]
      refine held_take (i := 19) (v := ?_) rfl (by as_aux_lemma => kernel_rfl) (fun _ _ _ h => h) (by rfl) ?_ hHeld480 ?_
      rotate_left; · (intro w' _; go_simp; try with_reducible rfl)
      try simp only [Act.put, List.setIfInBounds_toArray, List.set_cons_zero, List.set_cons_succ]
      refine held_take (i := 20) (v := ?_) rfl (by as_aux_lemma => kernel_rfl) (fun _ _ _ h => h) (by rfl) ?_ hHeld480 ?_
      rotate_left; · (intro w' _; go_simp; try with_reducible rfl)
      try simp only [Act.put, List.setIfInBounds_toArray, List.set_cons_zero, List.set_cons_succ]
      refine held_take (i := 21) (v := ?_) rfl (by as_aux_lemma => kernel_rfl) (fun _ _ _ h => h) (by rfl) ?_ hHeld480 ?_
      rotate_left; · (intro w' _; go_simp; try with_reducible rfl)
      try simp only [Act.put, List.setIfInBounds_toArray, List.set_cons_zero, List.set_cons_succ]
      refine held_take (i := 22) (v := ?_) rfl (by as_aux_lemma => kernel_rfl) (fun _ _ _ h => h) (by rfl) ?_ hHeld480 ?_
      rotate_left; · (intro w' _; go_simp; try with_reducible rfl)
      try simp only [Act.put, List.setIfInBounds_toArray, List.set_cons_zero, List.set_cons_succ]
      as_aux_lemma =>
      refine held_take (i := 23) (v := ?_) rfl (by as_aux_lemma => kernel_rfl) (fun _ _ _ h => h) (by rfl) ?_ hHeld480 ?_
      rotate_left; · (intro w' _; go_simp; try with_reducible rfl)
      try simp only [Act.put, List.setIfInBounds_toArray, List.set_cons_zero, List.set_cons_succ]
      refine held_take (i := 24) (v := ?_) rfl (by as_aux_lemma => kernel_rfl) (fun _ _ _ h => h) (by rfl) ?_ hHeld480 ?_
      rotate_left; · (intro w' _; go_simp; try with_reducible rfl)
      try simp only [Act.put, List.setIfInBounds_toArray, List.set_cons_zero, List.set_cons_succ]
      refine held_take (i := 25) (v := ?_) rfl (by as_aux_lemma => kernel_rfl) (fun _ _ _ h => h) (by rfl) ?_ hHeld480 ?_
      rotate_left; · (intro w' hSw; have k0 := hSw.2.2.2.2.2.2.1; have k1 := hSw.2.2.2.2.2.2.2.1; have k2 := hSw.2.2.2.2.2.2.2.2.1; clear hSw; go_simp; try with_reducible rfl)
      try simp only [Act.put, List.setIfInBounds_toArray, List.set_cons_zero, List.set_cons_succ]
      refine held_take (i := 26) (v := ?_) rfl (by as_aux_lemma => kernel_rfl) (fun _ _ _ h => h) (by rfl) ?_ hHeld480 ?_
      rotate_left; · (intro w' hSw; have k0 := hSw.2.2.2.2.2.2.2.2.2.1; have k1 := hSw.2.2.2.2.2.2.2.2.2.2.1; have k2 := hSw.2.2.2.2.2.2.2.2.2.2.2.1; clear hSw; go_simp; try with_reducible rfl)
      try simp only [Act.put, List.setIfInBounds_toArray, List.set_cons_zero, List.set_cons_succ]
      refine held_take (i := 27) (v := ?_) rfl (by as_aux_lemma => kernel_rfl) (fun _ _ _ h => h) (by rfl) ?_ hHeld480 ?_
      rotate_left; · (intro w' _; go_simp; try with_reducible rfl)
      try simp only [Act.put, List.setIfInBounds_toArray, List.set_cons_zero, List.set_cons_succ]
      refine held_take (i := 28) (v := ?_) rfl (by as_aux_lemma => kernel_rfl) (fun _ _ _ h => h) (by rfl) ?_ hHeld480 ?_
      rotate_left; · (intro w' _; go_simp; try with_reducible rfl)
      try simp only [Act.put, List.setIfInBounds_toArray, List.set_cons_zero, List.set_cons_succ]
      refine held_take (i := 29) (v := ?_) rfl (by as_aux_lemma => kernel_rfl) (fun _ _ _ h => h) (by rfl) ?_ hHeld480 ?_
      rotate_left; · (intro w' _; go_simp; try with_reducible rfl)
      try simp only [Act.put, List.setIfInBounds_toArray, List.set_cons_zero, List.set_cons_succ]
      refine held_take (i := 30) (v := ?_) rfl (by as_aux_lemma => kernel_rfl) (fun _ _ _ h => h) (by rfl) ?_ hHeld480 ?_
      rotate_left; · (intro w' _; go_simp; try with_reducible rfl)
      try simp only [Act.put, List.setIfInBounds_toArray, List.set_cons_zero, List.set_cons_succ]
      refine held_take (i := 31) (v := ?_) rfl (by as_aux_lemma => kernel_rfl) (fun _ _ _ h => h) (by rfl) ?_ hHeld480 ?_
      rotate_left; · (intro w' _; go_simp; try with_reducible rfl)
      try simp only [Act.put, List.setIfInBounds_toArray, List.set_cons_zero, List.set_cons_succ]
      refine held_take (i := 32) (v := ?_) rfl (by as_aux_lemma => kernel_rfl) (fun _ _ _ h => h) (by rfl) ?_ hHeld480 ?_
      rotate_left; · (intro w' _; go_simp; try with_reducible rfl)
      try simp only [Act.put, List.setIfInBounds_toArray, List.set_cons_zero, List.set_cons_succ]
      refine held_take (i := 33) (v := ?_) rfl (by as_aux_lemma => kernel_rfl) (fun _ _ _ h => h) (by rfl) ?_ hHeld480 ?_
      rotate_left; · (intro w' _; go_simp; try with_reducible rfl)
      try simp only [Act.put, List.setIfInBounds_toArray, List.set_cons_zero, List.set_cons_succ]
      refine held_take (i := 34) (v := ?_) rfl (by as_aux_lemma => kernel_rfl) (fun _ _ _ h => h) (by rfl) ?_ hHeld480 ?_
      rotate_left; · (intro w' _; go_simp; try with_reducible rfl)
      try simp only [Act.put, List.setIfInBounds_toArray, List.set_cons_zero, List.set_cons_succ]
      as_aux_lemma =>
      refine held_take (i := 35) (v := ?_) rfl (by as_aux_lemma => kernel_rfl) (fun _ _ _ h => h) (by rfl) ?_ hHeld480 ?_
      rotate_left; · (intro w' hSw; have k0 := hSw.2.2.2.2.2.2.2.2.2.2.2.2.1; have k1 := hSw.2.2.2.2.2.2.2.2.2.2.2.2.2.1; have k2 := hSw.2.2.2.2.2.2.2.2.2.2.2.2.2.2.1; clear hSw; go_simp; try with_reducible rfl)
      try simp only [Act.put, List.setIfInBounds_toArray, List.set_cons_zero, List.set_cons_succ]
      refine held_take (i := 36) (v := ?_) rfl (by as_aux_lemma => kernel_rfl) (fun _ _ _ h => h) (by rfl) ?_ hHeld480 ?_
      rotate_left; · (intro w' hSw; have k0 := hSw.2.2.2.2.2.2.2.2.2.2.2.2.2.2.2.1; have k1 := hSw.2.2.2.2.2.2.2.2.2.2.2.2.2.2.2.2.1; have k2 := hSw.2.2.2.2.2.2.2.2.2.2.2.2.2.2.2.2.2.1; clear hSw; go_simp; try with_reducible rfl)
      try simp only [Act.put, List.setIfInBounds_toArray, List.set_cons_zero, List.set_cons_succ]
      refine held_take (i := 37) (v := ?_) rfl (by as_aux_lemma => kernel_rfl) (fun _ _ _ h => h) (by rfl) ?_ hHeld480 ?_
      rotate_left; · (intro w' _; go_simp; try with_reducible rfl)
      try simp only [Act.put, List.setIfInBounds_toArray, List.set_cons_zero, List.set_cons_succ]
      refine held_take (i := 38) (v := ?_) rfl (by as_aux_lemma => kernel_rfl) (fun _ _ _ h => h) (by rfl) ?_ hHeld480 ?_
      rotate_left; · (intro w' _; go_simp; try with_reducible rfl)
      try simp only [Act.put, List.setIfInBounds_toArray, List.set_cons_zero, List.set_cons_succ]
      refine held_take (i := 39) (v := ?_) rfl (by as_aux_lemma => kernel_rfl) (fun _ _ _ h => h) (by rfl) ?_ hHeld480 ?_
      rotate_left; · (intro w' _; go_simp; try with_reducible rfl)
      try simp only [Act.put, List.setIfInBounds_toArray, List.set_cons_zero, List.set_cons_succ]
      refine held_take (i := 40) (v := ?_) rfl (by as_aux_lemma => kernel_rfl) (fun _ _ _ h => h) (by rfl) ?_ hHeld480 ?_
      rotate_left; · (intro w' _; go_simp; try with_reducible rfl)
      try simp only [Act.put, List.setIfInBounds_toArray, List.set_cons_zero, List.set_cons_succ]
      refine held_take (i := 41) (v := ?_) rfl (by as_aux_lemma => kernel_rfl) (fun _ _ _ h => h) (by rfl) ?_ hHeld480 ?_
      rotate_left; · (intro w' _; go_simp; try with_reducible rfl)
      try simp only [Act.put, List.setIfInBounds_toArray, List.set_cons_zero, List.set_cons_succ]
      refine held_take (i := 42) (v := ?_) rfl (by as_aux_lemma => kernel_rfl) (fun _ _ _ h => h) (by rfl) ?_ hHeld480 ?_
      rotate_left; · (intro w' _; go_simp; try with_reducible rfl)
      try simp only [Act.put, List.setIfInBounds_toArray, List.set_cons_zero, List.set_cons_succ]
      refine held_take (i := 43) (v := ?_) rfl (by as_aux_lemma => kernel_rfl) (fun _ _ _ h => h) (by rfl) ?_ hHeld480 ?_
      rotate_left; · (intro w' _; go_simp; try with_reducible rfl)
      try simp only [Act.put, List.setIfInBounds_toArray, List.set_cons_zero, List.set_cons_succ]
      refine held_take (i := 44) (v := ?_) rfl (by as_aux_lemma => kernel_rfl) (fun _ _ _ h => h) (by rfl) ?_ hHeld480 ?_
      rotate_left; · (intro w' _; go_simp; try with_reducible rfl)
      try simp only [Act.put, List.setIfInBounds_toArray, List.set_cons_zero, List.set_cons_succ]
      refine held_take (i := 45) (v := ?_) rfl (by as_aux_lemma => kernel_rfl) (fun _ _ _ h => h) (by rfl) ?_ hHeld480 ?_
      rotate_left; · (intro w' hSw; have k0 := hSw.2.2.2.2.2.2.2.2.2.2.2.2.2.2.2.2.2.2.1; have k1 := hSw.2.2.2.2.2.2.2.2.2.2.2.2.2.2.2.2.2.2.2.1; have k2 := hSw.2.2.2.2.2.2.2.2.2.2.2.2.2.2.2.2.2.2.2.2.1; clear hSw; go_simp; try with_reducible rfl)
      try simp only [Act.put, List.setIfInBounds_toArray, List.set_cons_zero, List.set_cons_succ]
      refine held_take (i := 46) (v := ?_) rfl (by as_aux_lemma => kernel_rfl) (fun _ _ _ h => h) (by rfl) ?_ hHeld480 ?_
      rotate_left; · (intro w' hSw; have k0 := hSw.2.2.2.2.2.2.2.2.2.2.2.2.2.2.2.2.2.2.2.2.2.1; have k1 := hSw.2.2.2.2.2.2.2.2.2.2.2.2.2.2.2.2.2.2.2.2.2.2.1; have k2 := hSw.2.2.2.2.2.2.2.2.2.2.2.2.2.2.2.2.2.2.2.2.2.2.2.1; clear hSw; go_simp; try with_reducible rfl)
      try simp only [Act.put, List.setIfInBounds_toArray, List.set_cons_zero, List.set_cons_succ]
      as_aux_lemma =>
      refine held_take (i := 47) (v := ?_) rfl (by as_aux_lemma => kernel_rfl) (fun _ _ _ h => h) (by rfl) ?_ hHeld480 ?_
      rotate_left; · (intro w' _; go_simp; try with_reducible rfl)
      try simp only [Act.put, List.setIfInBounds_toArray, List.set_cons_zero, List.set_cons_succ]
      refine held_take (i := 48) (v := ?_) rfl (by as_aux_lemma => kernel_rfl) (fun _ _ _ h => h) (by rfl) ?_ hHeld480 ?_
      rotate_left; · (intro w' _; go_simp; try with_reducible rfl)
      try simp only [Act.put, List.setIfInBounds_toArray, List.set_cons_zero, List.set_cons_succ]
      refine held_take (i := 49) (v := ?_) rfl (by as_aux_lemma => kernel_rfl) (fun _ _ _ h => h) (by rfl) ?_ hHeld480 ?_
      rotate_left; · (intro w' _; go_simp; try with_reducible rfl)
      try simp only [Act.put, List.setIfInBounds_toArray, List.set_cons_zero, List.set_cons_succ]
      refine held_take (i := 50) (v := ?_) rfl (by as_aux_lemma => kernel_rfl) (fun _ _ _ h => h) (by rfl) ?_ hHeld480 ?_
      rotate_left; · (intro w' _; go_simp; try with_reducible rfl)
      try simp only [Act.put, List.setIfInBounds_toArray, List.set_cons_zero, List.set_cons_succ]
      refine held_take (i := 51) (v := ?_) rfl (by as_aux_lemma => kernel_rfl) (fun _ _ _ h => h) (by rfl) ?_ hHeld480 ?_
      rotate_left; · (intro w' _; go_simp; try with_reducible rfl)
      try simp only [Act.put, List.setIfInBounds_toArray, List.set_cons_zero, List.set_cons_succ]
      refine held_take (i := 52) (v := ?_) rfl (by as_aux_lemma => kernel_rfl) (fun _ _ _ h => h) (by rfl) ?_ hHeld480 ?_
      rotate_left; · (intro w' _; go_simp; try with_reducible rfl)
      try simp only [Act.put, List.setIfInBounds_toArray, List.set_cons_zero, List.set_cons_succ]
      refine held_take (i := 53) (v := ?_) rfl (by as_aux_lemma => kernel_rfl) (fun _ _ _ h => h) (by rfl) ?_ hHeld480 ?_
      rotate_left; · (intro w' _; go_simp; try with_reducible rfl)
      try simp only [Act.put, List.setIfInBounds_toArray, List.set_cons_zero, List.set_cons_succ]
      refine held_take (i := 54) (v := ?_) rfl (by as_aux_lemma => kernel_rfl) (fun _ _ _ h => h) (by rfl) ?_ hHeld480 ?_
      rotate_left; · (intro w' _; go_simp; try with_reducible rfl)
      try simp only [Act.put, List.setIfInBounds_toArray, List.set_cons_zero, List.set_cons_succ]
      refine held_take (i := 55) (v := ?_) rfl (by as_aux_lemma => kernel_rfl) (fun _ _ _ h => h) (by rfl) ?_ hHeld480 ?_
      rotate_left; · (intro w' hSw; have k0 := hSw.2.2.2.2.2.2.2.2.2.2.2.2.2.2.2.2.2.2.2.2.2.2.2.2.1; have k1 := hSw.2.2.2.2.2.2.2.2.2.2.2.2.2.2.2.2.2.2.2.2.2.2.2.2.2.1; have k2 := hSw.2.2.2.2.2.2.2.2.2.2.2.2.2.2.2.2.2.2.2.2.2.2.2.2.2.2.1; clear hSw; go_simp; try with_reducible rfl)
      try simp only [Act.put, List.setIfInBounds_toArray, List.set_cons_zero, List.set_cons_succ]
      refine held_take (i := 56) (v := ?_) rfl (by as_aux_lemma => kernel_rfl) (fun _ _ _ h => h) (by rfl) ?_ hHeld480 ?_
      rotate_left; · (intro w' hSw; have k0 := hSw.2.2.2.2.2.2.2.2.2.2.2.2.2.2.2.2.2.2.2.2.2.2.2.2.2.2.2.1; have k1 := hSw.2.2.2.2.2.2.2.2.2.2.2.2.2.2.2.2.2.2.2.2.2.2.2.2.2.2.2.2.1; have k2 := hSw.2.2.2.2.2.2.2.2.2.2.2.2.2.2.2.2.2.2.2.2.2.2.2.2.2.2.2.2.2.1; clear hSw; go_simp; try with_reducible rfl)
      try simp only [Act.put, List.setIfInBounds_toArray, List.set_cons_zero, List.set_cons_succ]
      refine held_take (i := 57) (v := ?_) rfl (by as_aux_lemma => kernel_rfl) (fun _ _ _ h => h) (by rfl) ?_ hHeld480 ?_
      rotate_left; · (intro w' _; go_simp; try with_reducible rfl)
      try simp only [Act.put, List.setIfInBounds_toArray, List.set_cons_zero, List.set_cons_succ]
      refine held_take (i := 58) (v := ?_) rfl (by as_aux_lemma => kernel_rfl) (fun _ _ _ h => h) (by rfl) ?_ hHeld480 ?_
      rotate_left; · (intro w' _; go_simp; try with_reducible rfl)
      try simp only [Act.put, List.setIfInBounds_toArray, List.set_cons_zero, List.set_cons_succ]
      as_aux_lemma =>
      refine held_take (i := 59) (v := ?_) rfl (by as_aux_lemma => kernel_rfl) (fun _ _ _ h => h) (by rfl) ?_ hHeld480 ?_
      rotate_left; · (intro w' _; go_simp; try with_reducible rfl)
      try simp only [Act.put, List.setIfInBounds_toArray, List.set_cons_zero, List.set_cons_succ]
      refine held_take (i := 60) (v := ?_) rfl (by as_aux_lemma => kernel_rfl) (fun _ _ _ h => h) (by rfl) ?_ hHeld480 ?_
      rotate_left; · (intro w' _; go_simp; try with_reducible rfl)
      try simp only [Act.put, List.setIfInBounds_toArray, List.set_cons_zero, List.set_cons_succ]
      refine held_take (i := 61) (v := ?_) rfl (by as_aux_lemma => kernel_rfl) (fun _ _ _ h => h) (by rfl) ?_ hHeld480 ?_
      rotate_left; · (intro w' _; go_simp; try with_reducible rfl)
      try simp only [Act.put, List.setIfInBounds_toArray, List.set_cons_zero, List.set_cons_succ]
      refine held_take (i := 62) (v := ?_) rfl (by as_aux_lemma => kernel_rfl) (fun _ _ _ h => h) (by rfl) ?_ hHeld480 ?_
      rotate_left; · (intro w' _; go_simp; try with_reducible rfl)
      try simp only [Act.put, List.setIfInBounds_toArray, List.set_cons_zero, List.set_cons_succ]
      refine held_take (i := 63) (v := ?_) rfl (by as_aux_lemma => kernel_rfl) (fun _ _ _ h => h) (by rfl) ?_ hHeld480 ?_
      rotate_left; · (intro w' _; go_simp; try with_reducible rfl)
      try simp only [Act.put, List.setIfInBounds_toArray, List.set_cons_zero, List.set_cons_succ]
      refine held_take (i := 64) (v := ?_) rfl (by as_aux_lemma => kernel_rfl) (fun _ _ _ h => h) (by rfl) ?_ hHeld480 ?_
      rotate_left; · (intro w' _; go_simp; try with_reducible rfl)
      try simp only [Act.put, List.setIfInBounds_toArray, List.set_cons_zero, List.set_cons_succ]
      refine held_take (i := 65) (v := ?_) rfl (by as_aux_lemma => kernel_rfl) (fun _ _ _ h => h) (by rfl) ?_ hHeld480 ?_
      rotate_left; · (intro w' hSw; have k0 := hSw.2.2.2.2.2.2.2.2.2.2.2.2.2.2.2.2.2.2.2.2.2.2.2.2.2.2.2.2.2.2.1; have k1 := hSw.2.2.2.2.2.2.2.2.2.2.2.2.2.2.2.2.2.2.2.2.2.2.2.2.2.2.2.2.2.2.2.1; have k2 := hSw.2.2.2.2.2.2.2.2.2.2.2.2.2.2.2.2.2.2.2.2.2.2.2.2.2.2.2.2.2.2.2.2.1; clear hSw; go_simp; try with_reducible rfl)
      try simp only [Act.put, List.setIfInBounds_toArray, List.set_cons_zero, List.set_cons_succ]
      refine held_take (i := 66) (v := ?_) rfl (by as_aux_lemma => kernel_rfl) (fun _ _ _ h => h) (by rfl) ?_ hHeld480 ?_
      rotate_left; · (intro w' hSw; have k0 := hSw.2.2.2.2.2.2.2.2.2.2.2.2.2.2.2.2.2.2.2.2.2.2.2.2.2.2.2.2.2.2.2.2.2.1; have k1 := hSw.2.2.2.2.2.2.2.2.2.2.2.2.2.2.2.2.2.2.2.2.2.2.2.2.2.2.2.2.2.2.2.2.2.2.1; have k2 := hSw.2.2.2.2.2.2.2.2.2.2.2.2.2.2.2.2.2.2.2.2.2.2.2.2.2.2.2.2.2.2.2.2.2.2.2.1; clear hSw; go_simp; try with_reducible rfl)
      try simp only [Act.put, List.setIfInBounds_toArray, List.set_cons_zero, List.set_cons_succ]
      refine held_take (i := 67) (v := ?_) rfl (by as_aux_lemma => kernel_rfl) (fun _ _ _ h => h) (by rfl) ?_ hHeld480 ?_
      rotate_left; · (intro w' _; go_simp; try with_reducible rfl)
      try simp only [Act.put, List.setIfInBounds_toArray, List.set_cons_zero, List.set_cons_succ]
      refine held_take (i := 68) (v := ?_) rfl (by as_aux_lemma => kernel_rfl) (fun _ _ _ h => h) (by rfl) ?_ hHeld480 ?_
      rotate_left; · (intro w' _; go_simp; try with_reducible rfl)
      try simp only [Act.put, List.setIfInBounds_toArray, List.set_cons_zero, List.set_cons_succ]
      refine held_take (i := 69) (v := ?_) rfl (by as_aux_lemma => kernel_rfl) (fun _ _ _ h => h) (by rfl) ?_ hHeld480 ?_
      rotate_left; · (intro w' _; go_simp; try with_reducible rfl)
      try simp only [Act.put, List.setIfInBounds_toArray, List.set_cons_zero, List.set_cons_succ]
      refine held_take (i := 70) (v := ?_) rfl (by as_aux_lemma => kernel_rfl) (fun _ _ _ h => h) (by rfl) ?_ hHeld480 ?_
      rotate_left; · (intro w' hSw; have k0 := hSw.2.2.2.2.2.2.2.2.2.2.2.2.2.2.2.2.2.2.2.2.2.2.2.2.2.2.2.2.2.2.2.2.2.2.2.2.1; have k1 := hSw.2.2.2.2.2.2.2.2.2.2.2.2.2.2.2.2.2.2.2.2.2.2.2.2.2.2.2.2.2.2.2.2.2.2.2.2.2.1; have k2 := hSw.2.2.2.2.2.2.2.2.2.2.2.2.2.2.2.2.2.2.2.2.2.2.2.2.2.2.2.2.2.2.2.2.2.2.2.2.2.2.1; clear hSw; go_simp; try with_reducible rfl)
      try simp only [Act.put, List.setIfInBounds_toArray, List.set_cons_zero, List.set_cons_succ]
      as_aux_lemma =>
      refine held_take (i := 72) (v := ?_) rfl (by as_aux_lemma => kernel_rfl) (fun _ _ _ h => h) (by rfl) ?_ hHeld480 ?_
      rotate_left; · (intro w' hSw; have k0 := hSw.2.2.2.2.2.2.2.2.2.2.2.2.2.2.2.2.2.2.2.2.2.2.2.2.2.2.2.2.2.2.2.2.2.2.2.2.1; have k1 := hSw.2.2.2.2.2.2.2.2.2.2.2.2.2.2.2.2.2.2.2.2.2.2.2.2.2.2.2.2.2.2.2.2.2.2.2.2.2.1; have k2 := hSw.2.2.2.2.2.2.2.2.2.2.2.2.2.2.2.2.2.2.2.2.2.2.2.2.2.2.2.2.2.2.2.2.2.2.2.2.2.2.1; clear hSw; go_simp; try with_reducible rfl)
      try simp only [Act.put, List.setIfInBounds_toArray, List.set_cons_zero, List.set_cons_succ]
      refine held_one (i := 71) rfl (by as_aux_lemma => kernel_rfl) (fun K hK => ?_)
      go_simp
      go_at_call 23
      refine (HciIsSurface.out _).mono ?_
      rintro e v481 ⟨rfl, hb482⟩
      have hS483 := held_on Hmk1.out hHeld480 (fun h => Hpr1.out _ h) hb482
      clear hb482 hHeld480
      go_simp
      refine hK.out _ _ hS483 (fun hHeld484 => ?_)
      clear hK K hS483
      try simp only [Act.put, List.setIfInBounds_toArray, List.set_cons_zero, List.set_cons_succ]
      refine held_one (i := 73) rfl (by as_aux_lemma => kernel_rfl) (fun K hK => ?_)
      go_simp
      go_at_call 24
      refine (HcsIsSurface.out _).mono ?_
      rintro e v485 ⟨rfl, hb486⟩
      have hS487 := held_on Hmk1.out hHeld484 (fun h => Hpr1.out _ h) hb486
      clear hb486 hHeld484
      go_simp
      refine hK.out _ _ hS487 (fun hHeld488 => ?_)
      clear hK K hS487
      try simp only [Act.put, List.setIfInBounds_toArray, List.set_cons_zero, List.set_cons_succ]
      refine held_take (i := 74) (v := ?_) rfl (by as_aux_lemma => kernel_rfl) (fun _ _ _ h => h) (by rfl) ?_ hHeld488 ?_
      rotate_left; · (intro w' _; go_simp; try with_reducible rfl)
      try simp only [Act.put, List.setIfInBounds_toArray, List.set_cons_zero, List.set_cons_succ]
      refine held_take (i := 75) (v := ?_) rfl (by as_aux_lemma => kernel_rfl) (fun _ _ _ h => h) (by rfl) ?_ hHeld488 ?_
      rotate_left; · (intro w' _; go_simp; try with_reducible rfl)
      try simp only [Act.put, List.setIfInBounds_toArray, List.set_cons_zero, List.set_cons_succ]
      refine held_take (i := 76) (v := ?_) rfl (by as_aux_lemma => kernel_rfl) (fun _ _ _ h => h) (by rfl) ?_ hHeld488 ?_
      rotate_left; · (intro w' _; go_simp; try with_reducible rfl)
      try simp only [Act.put, List.setIfInBounds_toArray, List.set_cons_zero, List.set_cons_succ]
      refine held_take (i := 77) (v := ?_) rfl (by as_aux_lemma => kernel_rfl) (fun _ _ _ h => h) (by rfl) ?_ hHeld488 ?_
      rotate_left; · (intro w' hSw; have k0 := hSw.2.2.2.2.2.2.2.2.2.2.2.2.2.2.2.2.2.2.2.2.2.2.2.2.2.2.2.2.2.2.2.2.2.2.2.2.1; have k1 := hSw.2.2.2.2.2.2.2.2.2.2.2.2.2.2.2.2.2.2.2.2.2.2.2.2.2.2.2.2.2.2.2.2.2.2.2.2.2.1; have k2 := hSw.2.2.2.2.2.2.2.2.2.2.2.2.2.2.2.2.2.2.2.2.2.2.2.2.2.2.2.2.2.2.2.2.2.2.2.2.2.2.1; clear hSw; go_simp; try with_reducible rfl)
      try simp only [Act.put, List.setIfInBounds_toArray, List.set_cons_zero, List.set_cons_succ]
      refine held_take (i := 79) (v := ?_) rfl (by as_aux_lemma => kernel_rfl) (fun _ _ _ h => h) (by rfl) ?_ hHeld488 ?_
      rotate_left; · (intro w' hSw; have k0 := hSw.2.2.2.2.2.2.2.2.2.2.2.2.2.2.2.2.2.2.2.2.2.2.2.2.2.2.2.2.2.2.2.2.2.2.2.2.1; have k1 := hSw.2.2.2.2.2.2.2.2.2.2.2.2.2.2.2.2.2.2.2.2.2.2.2.2.2.2.2.2.2.2.2.2.2.2.2.2.2.1; have k2 := hSw.2.2.2.2.2.2.2.2.2.2.2.2.2.2.2.2.2.2.2.2.2.2.2.2.2.2.2.2.2.2.2.2.2.2.2.2.2.2.1; clear hSw; go_simp; try with_reducible rfl)
      try simp only [Act.put, List.setIfInBounds_toArray, List.set_cons_zero, List.set_cons_succ]
      refine held_one (i := 78) rfl (by as_aux_lemma => kernel_rfl) (fun K hK => ?_)
      go_simp
      go_at_call 25
      refine (HciEulerNumber.out _).mono ?_
      rintro e v489 ⟨rfl, hb490⟩
      have hS491 := held_on Hmk1.out hHeld488 (fun h => Hpr1.out _ h) hb490
      clear hb490 hHeld488
      go_simp
      refine hK.out _ _ hS491 (fun hHeld492 => ?_)
      clear hK K hS491
      try simp only [Act.put, List.setIfInBounds_toArray, List.set_cons_zero, List.set_cons_succ]
      refine held_one (i := 80) rfl (by as_aux_lemma => kernel_rfl) (fun K hK => ?_)
      go_simp
      go_at_call 26
      refine (HcsEulerNumber.out _).mono ?_
      rintro e v493 ⟨rfl, hb494⟩
      have hS495 := held_on Hmk1.out hHeld492 (fun h => Hpr1.out _ h) hb494
      clear hb494 hHeld492
      go_simp
      refine hK.out _ _ hS495 (fun hHeld496 => ?_)
      clear hK K hS495
      try simp only [Act.put, List.setIfInBounds_toArray, List.set_cons_zero, List.set_cons_succ]
      refine held_take (i := 81) (v := ?_) rfl (by as_aux_lemma => kernel_rfl) (fun _ _ _ h => h) (by rfl) ?_ hHeld496 ?_
      rotate_left; · (intro w' _; go_simp; try with_reducible rfl)
      try simp only [Act.put, List.setIfInBounds_toArray, List.set_cons_zero, List.set_cons_succ]
      refine held_take (i := 82) (v := ?_) rfl (by as_aux_lemma => kernel_rfl) (fun _ _ _ h => h) (by rfl) ?_ hHeld496 ?_
      rotate_left; · (intro w' _; go_simp; try with_reducible rfl)
      try simp only [Act.put, List.setIfInBounds_toArray, List.set_cons_zero, List.set_cons_succ]
      as_aux_lemma =>
      refine held_take (i := 83) (v := ?_) rfl (by as_aux_lemma => kernel_rfl) (fun _ _ _ h => h) (by rfl) ?_ hHeld496 ?_
      rotate_left; · (intro w' _; go_simp; try with_reducible rfl)
      try simp only [Act.put, List.setIfInBounds_toArray, List.set_cons_zero, List.set_cons_succ]
      refine held_take (i := 84) (v := ?_) rfl (by as_aux_lemma => kernel_rfl) (fun _ _ _ h => h) (by rfl) ?_ hHeld496 ?_
      rotate_left; · (intro w' hSw; have k0 := hSw.2.2.2.2.2.2.2.2.2.2.2.2.2.2.2.2.2.2.2.2.2.2.2.2.2.2.2.2.2.2.2.2.2.2.2.2.1; have k1 := hSw.2.2.2.2.2.2.2.2.2.2.2.2.2.2.2.2.2.2.2.2.2.2.2.2.2.2.2.2.2.2.2.2.2.2.2.2.2.1; have k2 := hSw.2.2.2.2.2.2.2.2.2.2.2.2.2.2.2.2.2.2.2.2.2.2.2.2.2.2.2.2.2.2.2.2.2.2.2.2.2.2.1; clear hSw; go_simp; try with_reducible rfl)
      try simp only [Act.put, List.setIfInBounds_toArray, List.set_cons_zero, List.set_cons_succ]
      refine held_take (i := 86) (v := ?_) rfl (by as_aux_lemma => kernel_rfl) (fun _ _ _ h => h) (by rfl) ?_ hHeld496 ?_
      rotate_left; · (intro w' hSw; have k0 := hSw.2.2.2.2.2.2.2.2.2.2.2.2.2.2.2.2.2.2.2.2.2.2.2.2.2.2.2.2.2.2.2.2.2.2.2.2.1; have k1 := hSw.2.2.2.2.2.2.2.2.2.2.2.2.2.2.2.2.2.2.2.2.2.2.2.2.2.2.2.2.2.2.2.2.2.2.2.2.2.1; have k2 := hSw.2.2.2.2.2.2.2.2.2.2.2.2.2.2.2.2.2.2.2.2.2.2.2.2.2.2.2.2.2.2.2.2.2.2.2.2.2.2.1; clear hSw; go_simp; try with_reducible rfl)
      try simp only [Act.put, List.setIfInBounds_toArray, List.set_cons_zero, List.set_cons_succ]
      refine held_one (i := 85) rfl (by as_aux_lemma => kernel_rfl) (fun K hK => ?_)
      go_simp
      go_at_call 27
      refine (HciSurfaceName.out _ (Ht.out _ (hB476.trans ((Hpr1.out _ hHeld496).mono hB476.size)))).mono ?_
      rintro e v497 ⟨rfl, hb498⟩
      have hS499 := held_on Hmk1.out hHeld496 (fun h => Hpr1.out _ h) hb498
      clear hb498 hHeld496
      go_simp
      refine hK.out _ _ hS499 (fun hHeld500 => ?_)
      clear hK K hS499
      try simp only [Act.put, List.setIfInBounds_toArray, List.set_cons_zero, List.set_cons_succ]
      refine held_one (i := 87) rfl (by as_aux_lemma => kernel_rfl) (fun K hK => ?_)
      go_simp
      go_at_call 28
      refine (HcsSurfaceName.out _).mono ?_
      rintro e v501 ⟨rfl, hb502⟩
      have hS503 := held_on Hmk1.out hHeld500 (fun h => Hpr1.out _ h) hb502
      clear hb502 hHeld500
      go_simp
      refine hK.out _ _ hS503 (fun hHeld504 => ?_)
      clear hK K hS503
      try simp only [Act.put, List.setIfInBounds_toArray, List.set_cons_zero, List.set_cons_succ]
      refine held_take (i := 88) (v := ?_) rfl (by as_aux_lemma => kernel_rfl) (fun _ _ _ h => h) (by rfl) ?_ hHeld504 ?_
      rotate_left; · (intro w' _; go_simp; try with_reducible rfl)
      try simp only [Act.put, List.setIfInBounds_toArray, List.set_cons_zero, List.set_cons_succ]
      refine held_take (i := 89) (v := ?_) rfl (by as_aux_lemma => kernel_rfl) (fun _ _ _ h => h) (by rfl) ?_ hHeld504 ?_
      rotate_left; · (intro w' _; go_simp; try with_reducible rfl)
      try simp only [Act.put, List.setIfInBounds_toArray, List.set_cons_zero, List.set_cons_succ]
      refine held_done (by as_aux_lemma => kernel_rfl) ?_
      go_wp2_with fail
      go_meet
      exact ⟨rfl, Hpr1.out _ hHeld504⟩
    case rest => as_aux_lemma =>
    obtain ⟨rfl, hc0⟩ := hcut
    obtain ⟨u0, hu0⟩ : ∃ u, u = wc := ⟨_, rfl⟩
    subst hu0
    have hB505 : Below w.heap.size w u0 := hB476.trans (hc0.mono hB476.size)
    have HG506 := Lib.hid (HG473.out.below hc0)
    clear HG473
    have HG507 := Lib.hid (HG474.out.below hc0)
    clear HG474
    have HG508 := Lib.hid (HG475.out.below hc0)
    clear HG475
    have HX509 := Lib.hid (HX458.out.below hc0 HX458.out.lt)
    clear HX458
    have HX510 := Lib.hid (HX459.out.below hc0 HX459.out.lt)
    clear HX459
    have HX511 := Lib.hid (HX460.out.below hc0 HX460.out.lt)
    clear HX460
    have HX512 := Lib.hid (HX461.out.below hc0 HX461.out.lt)
    clear HX461
    have HX513 := Lib.hid (HX462.out.below hc0 HX462.out.lt)
    clear HX462
    have HX514 := Lib.hid (HX463.out.below hc0 HX463.out.lt)
    clear HX463
    have HX515 := Lib.hid (HX464.out.below hc0 HX464.out.lt)
    clear HX464
    have HX516 := Lib.hid (HX465.out.below hc0 HX465.out.lt)
    clear HX465
    have HX517 := Lib.hid (HX466.out.below hc0 HX466.out.lt)
    clear HX466
    have HX518 := Lib.hid (HX467.out.below hc0 HX467.out.lt)
    clear HX467
    have HX519 := Lib.hid (HX468.out.below hc0 HX468.out.lt)
    clear HX468
    have HX520 := Lib.hid (HX469.out.below hc0 HX469.out.lt)
    clear HX469
    have HX521 := Lib.hid (HX470.out.below hc0 HX470.out.lt)
    clear HX470
    have HX522 := Lib.hid (HX471.out.below hc0 HX471.out.lt)
    clear HX471
    have HX523 := Lib.hid (HX472.out.below hc0 HX472.out.lt)
    clear HX472
    clear hc0 Hmk1 Hpr1
    go_upto_if 212 with fail
    go_cut [] from 39 (fun wx => Below u0.heap.size u0 wx)
    case first => as_aux_lemma =>
      cases Bok with
      | false => as_aux_lemma =>
        go_wp2
        go_meet
        exact Below.refl _ _
      | true => as_aux_lemma =>
        have hA524 := Below.refl u0.heap.size u0
        obtain ⟨f1, f2, f3⟩ := HfStd.out (by first | exact rfl | trivial)
        have k1 := fun W a c k => HciBackS.out W a c k
        rw [f3, decide_eq_true f2] at k1
        have k2 := fun W a c k => HcsBackG.out W a c k
        rw [decide_eq_true f1] at k2
        have K1 := Lib.hid k1; have K2 := Lib.hid k2; clear k1 k2 f1 f2 f3
        go_wp2_with fail
        refine (K1.out _ a12 c13 HG506.out).mono ?_
        rintro e w20 ⟨rfl, hb525⟩
        have hB526 : Below w.heap.size w w20 := hB505.trans (hb525.mono hB505.size)
        have HG527 := Lib.hid (HG506.out.below hb525)
        clear HG506
        have HG528 := Lib.hid (HG507.out.below hb525)
        clear HG507
        have HG529 := Lib.hid (HG508.out.below hb525)
        clear HG508
        have HX530 := Lib.hid (HX509.out.below hb525 HX509.out.lt)
        clear HX509
        have HX531 := Lib.hid (HX510.out.below hb525 HX510.out.lt)
        clear HX510
        have HX532 := Lib.hid (HX511.out.below hb525 HX511.out.lt)
        clear HX511
        have HX533 := Lib.hid (HX512.out.below hb525 HX512.out.lt)
        clear HX512
        have HX534 := Lib.hid (HX513.out.below hb525 HX513.out.lt)
        clear HX513
        have HX535 := Lib.hid (HX514.out.below hb525 HX514.out.lt)
        clear HX514
        have HX536 := Lib.hid (HX515.out.below hb525 HX515.out.lt)
        clear HX515
        have HX537 := Lib.hid (HX516.out.below hb525 HX516.out.lt)
        clear HX516
        have HX538 := Lib.hid (HX517.out.below hb525 HX517.out.lt)
        clear HX517
        have HX539 := Lib.hid (HX518.out.below hb525 HX518.out.lt)
        clear HX518
        have HX540 := Lib.hid (HX519.out.below hb525 HX519.out.lt)
        clear HX519
        have HX541 := Lib.hid (HX520.out.below hb525 HX520.out.lt)
        clear HX520
        have HX542 := Lib.hid (HX521.out.below hb525 HX521.out.lt)
        clear HX521
        have HX543 := Lib.hid (HX522.out.below hb525 HX522.out.lt)
        clear HX522
        have HX544 := Lib.hid (HX523.out.below hb525 HX523.out.lt)
        clear HX523
        have hA545 := hA524.trans (hb525.mono hA524.size)
        clear hA524
        clear hb525
        have hb546 : Below w20.heap.size w20 (w20.alloc (.cells #[.int .i64 x, .int .i64 y, .int .i64 z] 25)) := (Below.refl _ _).alloc (Nat.le_refl _) _
        have hB547 : Below w.heap.size w (w20.alloc (.cells #[.int .i64 x, .int .i64 y, .int .i64 z] 25)) := hB526.trans (hb546.mono hB526.size)
        have HG548 := Lib.hid (HG527.out.below hb546)
        clear HG527
        have HG549 := Lib.hid (HG528.out.below hb546)
        clear HG528
        have HG550 := Lib.hid (HG529.out.below hb546)
        clear HG529
        have HX551 := Lib.hid (HX530.out.below hb546 HX530.out.lt)
        clear HX530
        have HX552 := Lib.hid (HX531.out.below hb546 HX531.out.lt)
        clear HX531
        have HX553 := Lib.hid (HX532.out.below hb546 HX532.out.lt)
        clear HX532
        have HX554 := Lib.hid (HX533.out.below hb546 HX533.out.lt)
        clear HX533
        have HX555 := Lib.hid (HX534.out.below hb546 HX534.out.lt)
        clear HX534
        have HX556 := Lib.hid (HX535.out.below hb546 HX535.out.lt)
        clear HX535
        have HX557 := Lib.hid (HX536.out.below hb546 HX536.out.lt)
        clear HX536
        have HX558 := Lib.hid (HX537.out.below hb546 HX537.out.lt)
        clear HX537
        have HX559 := Lib.hid (HX538.out.below hb546 HX538.out.lt)
        clear HX538
        have HX560 := Lib.hid (HX539.out.below hb546 HX539.out.lt)
        clear HX539
        have HX561 := Lib.hid (HX540.out.below hb546 HX540.out.lt)
        clear HX540
        have HX562 := Lib.hid (HX541.out.below hb546 HX541.out.lt)
        clear HX541
        have HX563 := Lib.hid (HX542.out.below hb546 HX542.out.lt)
        clear HX542
        have HX564 := Lib.hid (HX543.out.below hb546 HX543.out.lt)
        clear HX543
        have HX565 := Lib.hid (HX544.out.below hb546 HX544.out.lt)
        clear HX544
        have hA566 := hA545.trans (hb546.mono hA545.size)
        clear hA545
        clear hb546
        have HX567 := Lib.hid (show Blk (w20.alloc (.cells #[.int .i64 x, .int .i64 y, .int .i64 z] 25)) w20.heap.size 25 #[.int .i64 x, .int .i64 y, .int .i64 z] from Blk.new w20 _ _)
        obtain ⟨q568, q569, q570, q571, q572, q573⟩ := HX567.out.six
        obtain ⟨q574, q575, q576, q577, q578, q579⟩ := HX551.out.six
        go_wp2_with fail
        refine (K2.out _ a12 c13 HG548.out).mono ?_
        rintro e w21 ⟨rfl, hb580⟩
        clear q568 q569 q570 q571 q572 q573 q574 q575 q576 q577 q578 q579
        have hB581 : Below w.heap.size w w21 := hB547.trans (hb580.mono hB547.size)
        have HG582 := Lib.hid (HG548.out.below hb580)
        clear HG548
        have HG583 := Lib.hid (HG549.out.below hb580)
        clear HG549
        have HG584 := Lib.hid (HG550.out.below hb580)
        clear HG550
        have HX585 := Lib.hid (HX551.out.below hb580 HX551.out.lt)
        clear HX551
        have HX586 := Lib.hid (HX552.out.below hb580 HX552.out.lt)
        clear HX552
        have HX587 := Lib.hid (HX553.out.below hb580 HX553.out.lt)
        clear HX553
        have HX588 := Lib.hid (HX554.out.below hb580 HX554.out.lt)
        clear HX554
        have HX589 := Lib.hid (HX555.out.below hb580 HX555.out.lt)
        clear HX555
        have HX590 := Lib.hid (HX556.out.below hb580 HX556.out.lt)
        clear HX556
        have HX591 := Lib.hid (HX557.out.below hb580 HX557.out.lt)
        clear HX557
        have HX592 := Lib.hid (HX558.out.below hb580 HX558.out.lt)
        clear HX558
        have HX593 := Lib.hid (HX559.out.below hb580 HX559.out.lt)
        clear HX559
        have HX594 := Lib.hid (HX560.out.below hb580 HX560.out.lt)
        clear HX560
        have HX595 := Lib.hid (HX561.out.below hb580 HX561.out.lt)
        clear HX561
        have HX596 := Lib.hid (HX562.out.below hb580 HX562.out.lt)
        clear HX562
        have HX597 := Lib.hid (HX563.out.below hb580 HX563.out.lt)
        clear HX563
        have HX598 := Lib.hid (HX564.out.below hb580 HX564.out.lt)
        clear HX564
        have HX599 := Lib.hid (HX565.out.below hb580 HX565.out.lt)
        clear HX565
        have HX600 := Lib.hid (HX567.out.below hb580 HX567.out.lt)
        clear HX567
        have hA601 := hA566.trans (hb580.mono hA566.size)
        clear hA566
        clear hb580
        go_wp2
        go_meet
        exact hA601
    case rest => as_aux_lemma =>
    obtain ⟨u1, hu1⟩ : ∃ u, u = wc := ⟨_, rfl⟩
    subst hu1
    have hc1 : Below u0.heap.size u0 u1 := hcut
    clear hcut
    have hB602 : Below w.heap.size w u1 := hB505.trans (hc1.mono hB505.size)
    have HG603 := Lib.hid (HG506.out.below hc1)
    clear HG506
    have HG604 := Lib.hid (HG507.out.below hc1)
    clear HG507
    have HG605 := Lib.hid (HG508.out.below hc1)
    clear HG508
    have HX606 := Lib.hid (HX509.out.below hc1 HX509.out.lt)
    clear HX509
    have HX607 := Lib.hid (HX510.out.below hc1 HX510.out.lt)
    clear HX510
    have HX608 := Lib.hid (HX511.out.below hc1 HX511.out.lt)
    clear HX511
    have HX609 := Lib.hid (HX512.out.below hc1 HX512.out.lt)
    clear HX512
    have HX610 := Lib.hid (HX513.out.below hc1 HX513.out.lt)
    clear HX513
    have HX611 := Lib.hid (HX514.out.below hc1 HX514.out.lt)
    clear HX514
    have HX612 := Lib.hid (HX515.out.below hc1 HX515.out.lt)
    clear HX515
    have HX613 := Lib.hid (HX516.out.below hc1 HX516.out.lt)
    clear HX516
    have HX614 := Lib.hid (HX517.out.below hc1 HX517.out.lt)
    clear HX517
    have HX615 := Lib.hid (HX518.out.below hc1 HX518.out.lt)
    clear HX518
    have HX616 := Lib.hid (HX519.out.below hc1 HX519.out.lt)
    clear HX519
    have HX617 := Lib.hid (HX520.out.below hc1 HX520.out.lt)
    clear HX520
    have HX618 := Lib.hid (HX521.out.below hc1 HX521.out.lt)
    clear HX521
    have HX619 := Lib.hid (HX522.out.below hc1 HX522.out.lt)
    clear HX522
    have HX620 := Lib.hid (HX523.out.below hc1 HX523.out.lt)
    clear HX523
    clear hc1
    go_upto_region 26 with fail
    have mk2 : ∀ w2, Below u1.heap.size u1 w2 → (w2.cell? ⟨Nx, 0, none⟩ = some (.int .i64 C6.1) ∧ w2.cell? ⟨Nx, 1, none⟩ = some (.int .i64 C6.2.1) ∧ w2.cell? ⟨Nx, 2, none⟩ = some (.int .i64 C6.2.2) ∧ w2.cell? ⟨Na, 0, none⟩ = some (.int .i64 p) ∧ w2.cell? ⟨Na, 1, none⟩ = some (.int .i64 q) ∧ w2.cell? ⟨Na, 2, none⟩ = some (.int .i64 r) ∧ w2.cell? ⟨(Na + 1), 0, none⟩ = some (.int .i64 p2) ∧ w2.cell? ⟨(Na + 1), 1, none⟩ = some (.int .i64 q2) ∧ w2.cell? ⟨(Na + 1), 2, none⟩ = some (.int .i64 r2) ∧ Below u1.heap.size u1 w2) := fun w2 hw => by
      have bkx := HX609.out.below hw HX609.out.lt
      have bka := HX607.out.below hw HX607.out.lt
      have bkb := HX608.out.below hw HX608.out.lt
      exact ⟨bkx.cell 0, bkx.cell 1, bkx.cell 2, bka.cell 0, bka.cell 1, bka.cell 2, bkb.cell 0, bkb.cell 1, bkb.cell 2, hw⟩
    have Hmk2 := Lib.hid mk2; clear mk2
    have pr2 : ∀ w2, (w2.cell? ⟨Nx, 0, none⟩ = some (.int .i64 C6.1) ∧ w2.cell? ⟨Nx, 1, none⟩ = some (.int .i64 C6.2.1) ∧ w2.cell? ⟨Nx, 2, none⟩ = some (.int .i64 C6.2.2) ∧ w2.cell? ⟨Na, 0, none⟩ = some (.int .i64 p) ∧ w2.cell? ⟨Na, 1, none⟩ = some (.int .i64 q) ∧ w2.cell? ⟨Na, 2, none⟩ = some (.int .i64 r) ∧ w2.cell? ⟨(Na + 1), 0, none⟩ = some (.int .i64 p2) ∧ w2.cell? ⟨(Na + 1), 1, none⟩ = some (.int .i64 q2) ∧ w2.cell? ⟨(Na + 1), 2, none⟩ = some (.int .i64 r2) ∧ Below u1.heap.size u1 w2) → Below u1.heap.size u1 w2 := fun w2 h => h.2.2.2.2.2.2.2.2.2
    have Hpr2 := Lib.hid pr2; clear pr2
    go_cut [241] from 39 (fun s241 wx => s241 = .bool false ∧ Below u1.heap.size u1 wx)
    case first => as_aux_lemma =>
      cases B6 with
      | false => as_aux_lemma =>
        go_quiet (fail)
        go_wp2_with fail
        go_meet
        exact ⟨rfl, by first | exact Below.refl _ _ | exact below_drewN (Below.refl _ _) _⟩
      | true => as_aux_lemma =>
        have k := HfSum.out (by first | exact rfl | trivial)
        subst k
        have z1 := HbA.out; have z2 := HbB.out
        have y1 : IntKind.i64.wrap (EA + EB) = EA + EB := wrap_small (by omega) (by omega)
        have y2 : IntKind.i64.wrap (EA + EB - 2) = EA + EB - 2 := wrap_small (by omega) (by omega)
        clear z1 z2
        go_region_held3 (fun w' => w'.cell? ⟨Nx, 0, none⟩ = some (.int .i64 C6.1) ∧ w'.cell? ⟨Nx, 1, none⟩ = some (.int .i64 C6.2.1) ∧ w'.cell? ⟨Nx, 2, none⟩ = some (.int .i64 C6.2.2) ∧ w'.cell? ⟨Na, 0, none⟩ = some (.int .i64 p) ∧ w'.cell? ⟨Na, 1, none⟩ = some (.int .i64 q) ∧ w'.cell? ⟨Na, 2, none⟩ = some (.int .i64 r) ∧ w'.cell? ⟨(Na + 1), 0, none⟩ = some (.int .i64 p2) ∧ w'.cell? ⟨(Na + 1), 1, none⟩ = some (.int .i64 q2) ∧ w'.cell? ⟨(Na + 1), 2, none⟩ = some (.int .i64 r2) ∧ Below u1.heap.size u1 w') (first | (with_reducible assumption) | (exact Hmk2.out _ (Below.drew (Below.refl _ _))))
          (first
            | (go_at_call_of 25 C6; refine (HciEX.out _).mono ?_; rintro e v20 ⟨rfl, hb0⟩; have hS0 := held_on Hmk2.out (by assumption) (fun h => Hpr2.out _ h) hb0; have hl0 := Lib.hid (Hpr2.out _ hS0); clear hb0)
            | (go_at_call_of 25 p; refine (HciEA.out _).mono ?_; rintro e v21 ⟨rfl, hb1⟩; have hS1 := held_on Hmk2.out (by assumption) (fun h => Hpr2.out _ h) hb1; have hl1 := Lib.hid (Hpr2.out _ hS1); clear hb1)
            | (go_at_call_of 25 p2; refine (HciEB.out _).mono ?_; rintro e v22 ⟨rfl, hb2⟩; have hS2 := held_on Hmk2.out (by assumption) (fun h => Hpr2.out _ h) hb2; have hl2 := Lib.hid (Hpr2.out _ hS2); clear hb2))
        go_wp2_with fail
        go_meet
        exact ⟨rfl, hl2.out⟩
    case rest => as_aux_lemma =>
    obtain ⟨rfl, hc2⟩ := hcut
    obtain ⟨u2, hu2⟩ : ∃ u, u = wc := ⟨_, rfl⟩
    subst hu2
    have hB621 : Below w.heap.size w u2 := hB602.trans (hc2.mono hB602.size)
    have HG622 := Lib.hid (HG603.out.below hc2)
    clear HG603
    have HG623 := Lib.hid (HG604.out.below hc2)
    clear HG604
    have HG624 := Lib.hid (HG605.out.below hc2)
    clear HG605
    have HX625 := Lib.hid (HX606.out.below hc2 HX606.out.lt)
    clear HX606
    have HX626 := Lib.hid (HX607.out.below hc2 HX607.out.lt)
    clear HX607
    have HX627 := Lib.hid (HX608.out.below hc2 HX608.out.lt)
    clear HX608
    have HX628 := Lib.hid (HX609.out.below hc2 HX609.out.lt)
    clear HX609
    have HX629 := Lib.hid (HX610.out.below hc2 HX610.out.lt)
    clear HX610
    have HX630 := Lib.hid (HX611.out.below hc2 HX611.out.lt)
    clear HX611
    have HX631 := Lib.hid (HX612.out.below hc2 HX612.out.lt)
    clear HX612
    have HX632 := Lib.hid (HX613.out.below hc2 HX613.out.lt)
    clear HX613
    have HX633 := Lib.hid (HX614.out.below hc2 HX614.out.lt)
    clear HX614
    have HX634 := Lib.hid (HX615.out.below hc2 HX615.out.lt)
    clear HX615
    have HX635 := Lib.hid (HX616.out.below hc2 HX616.out.lt)
    clear HX616
    have HX636 := Lib.hid (HX617.out.below hc2 HX617.out.lt)
    clear HX617
    have HX637 := Lib.hid (HX618.out.below hc2 HX618.out.lt)
    clear HX618
    have HX638 := Lib.hid (HX619.out.below hc2 HX619.out.lt)
    clear HX619
    have HX639 := Lib.hid (HX620.out.below hc2 HX620.out.lt)
    clear HX620
    clear hc2 Hmk2 Hpr2
    go_upto_region 28 with fail
    go_cut [254] from 39 (fun s254 wx => s254 = .bool false ∧ Below u2.heap.size u2 wx)
    case first => as_aux_lemma =>
      cases B7 with
      | false => as_aux_lemma =>
        go_wp2
        go_meet
        exact ⟨rfl, Below.refl _ _⟩
      | true => as_aux_lemma =>
        have k := HfOf.out (by first | exact rfl | trivial)
        have k2 := HfOi.out (by first | exact rfl | trivial)
        subst k2
        subst k
        have hA640 := Below.refl u2.heap.size u2
        obtain ⟨q641, q642, q643, q644, q645, q646⟩ := HX630.out.six
        as_aux_lemma =>
        go_wp2_with fail
        refine (HciEuU.out _).mono ?_
        rintro e w22 ⟨rfl, hb647⟩
        clear q641 q642 q643 q644 q645 q646
        have hB648 : Below w.heap.size w w22 := hB621.trans (hb647.mono hB621.size)
        have HG649 := Lib.hid (HG622.out.below hb647)
        clear HG622
        have HG650 := Lib.hid (HG623.out.below hb647)
        clear HG623
        have HG651 := Lib.hid (HG624.out.below hb647)
        clear HG624
        have HX652 := Lib.hid (HX625.out.below hb647 HX625.out.lt)
        clear HX625
        have HX653 := Lib.hid (HX626.out.below hb647 HX626.out.lt)
        clear HX626
        have HX654 := Lib.hid (HX627.out.below hb647 HX627.out.lt)
        clear HX627
        have HX655 := Lib.hid (HX628.out.below hb647 HX628.out.lt)
        clear HX628
        have HX656 := Lib.hid (HX629.out.below hb647 HX629.out.lt)
        clear HX629
        have HX657 := Lib.hid (HX630.out.below hb647 HX630.out.lt)
        clear HX630
        have HX658 := Lib.hid (HX631.out.below hb647 HX631.out.lt)
        clear HX631
        have HX659 := Lib.hid (HX632.out.below hb647 HX632.out.lt)
        clear HX632
        have HX660 := Lib.hid (HX633.out.below hb647 HX633.out.lt)
        clear HX633
        have HX661 := Lib.hid (HX634.out.below hb647 HX634.out.lt)
        clear HX634
        have HX662 := Lib.hid (HX635.out.below hb647 HX635.out.lt)
        clear HX635
        have HX663 := Lib.hid (HX636.out.below hb647 HX636.out.lt)
        clear HX636
        have HX664 := Lib.hid (HX637.out.below hb647 HX637.out.lt)
        clear HX637
        have HX665 := Lib.hid (HX638.out.below hb647 HX638.out.lt)
        clear HX638
        have HX666 := Lib.hid (HX639.out.below hb647 HX639.out.lt)
        clear HX639
        have hA667 := hA640.trans (hb647.mono hA640.size)
        clear hA640
        clear hb647
        go_wp2_with fail
        refine (HcsEuD.out _ HG651.out).mono ?_
        rintro e w23 ⟨rfl, hb668⟩
        have hB669 : Below w.heap.size w w23 := hB648.trans (hb668.mono hB648.size)
        have HG670 := Lib.hid (HG649.out.below hb668)
        clear HG649
        have HG671 := Lib.hid (HG650.out.below hb668)
        clear HG650
        have HG672 := Lib.hid (HG651.out.below hb668)
        clear HG651
        have HX673 := Lib.hid (HX652.out.below hb668 HX652.out.lt)
        clear HX652
        have HX674 := Lib.hid (HX653.out.below hb668 HX653.out.lt)
        clear HX653
        have HX675 := Lib.hid (HX654.out.below hb668 HX654.out.lt)
        clear HX654
        have HX676 := Lib.hid (HX655.out.below hb668 HX655.out.lt)
        clear HX655
        have HX677 := Lib.hid (HX656.out.below hb668 HX656.out.lt)
        clear HX656
        have HX678 := Lib.hid (HX657.out.below hb668 HX657.out.lt)
        clear HX657
        have HX679 := Lib.hid (HX658.out.below hb668 HX658.out.lt)
        clear HX658
        have HX680 := Lib.hid (HX659.out.below hb668 HX659.out.lt)
        clear HX659
        have HX681 := Lib.hid (HX660.out.below hb668 HX660.out.lt)
        clear HX660
        have HX682 := Lib.hid (HX661.out.below hb668 HX661.out.lt)
        clear HX661
        have HX683 := Lib.hid (HX662.out.below hb668 HX662.out.lt)
        clear HX662
        have HX684 := Lib.hid (HX663.out.below hb668 HX663.out.lt)
        clear HX663
        have HX685 := Lib.hid (HX664.out.below hb668 HX664.out.lt)
        clear HX664
        have HX686 := Lib.hid (HX665.out.below hb668 HX665.out.lt)
        clear HX665
        have HX687 := Lib.hid (HX666.out.below hb668 HX666.out.lt)
        clear HX666
        have hA688 := hA667.trans (hb668.mono hA667.size)
        clear hA667
        clear hb668
        obtain ⟨q689, q690, q691, q692, q693, q694⟩ := HX678.out.six
        go_wp2_with fail
        refine (HcsIsU.out _).mono ?_
        rintro e w24 ⟨rfl, hb695⟩
        clear q689 q690 q691 q692 q693 q694
        have hB696 : Below w.heap.size w w24 := hB669.trans (hb695.mono hB669.size)
        have HG697 := Lib.hid (HG670.out.below hb695)
        clear HG670
        have HG698 := Lib.hid (HG671.out.below hb695)
        clear HG671
        have HG699 := Lib.hid (HG672.out.below hb695)
        clear HG672
        have HX700 := Lib.hid (HX673.out.below hb695 HX673.out.lt)
        clear HX673
        have HX701 := Lib.hid (HX674.out.below hb695 HX674.out.lt)
        clear HX674
        have HX702 := Lib.hid (HX675.out.below hb695 HX675.out.lt)
        clear HX675
        have HX703 := Lib.hid (HX676.out.below hb695 HX676.out.lt)
        clear HX676
        have HX704 := Lib.hid (HX677.out.below hb695 HX677.out.lt)
        clear HX677
        have HX705 := Lib.hid (HX678.out.below hb695 HX678.out.lt)
        clear HX678
        have HX706 := Lib.hid (HX679.out.below hb695 HX679.out.lt)
        clear HX679
        have HX707 := Lib.hid (HX680.out.below hb695 HX680.out.lt)
        clear HX680
        have HX708 := Lib.hid (HX681.out.below hb695 HX681.out.lt)
        clear HX681
        have HX709 := Lib.hid (HX682.out.below hb695 HX682.out.lt)
        clear HX682
        have HX710 := Lib.hid (HX683.out.below hb695 HX683.out.lt)
        clear HX683
        have HX711 := Lib.hid (HX684.out.below hb695 HX684.out.lt)
        clear HX684
        have HX712 := Lib.hid (HX685.out.below hb695 HX685.out.lt)
        clear HX685
        have HX713 := Lib.hid (HX686.out.below hb695 HX686.out.lt)
        clear HX686
        have HX714 := Lib.hid (HX687.out.below hb695 HX687.out.lt)
        clear HX687
        have hA715 := hA688.trans (hb695.mono hA688.size)
        clear hA688
        clear hb695
        go_wp2
        go_meet
        exact ⟨rfl, hA715⟩
    case rest => as_aux_lemma =>
    obtain ⟨rfl, hc3⟩ := hcut
    obtain ⟨u3, hu3⟩ : ∃ u, u = wc := ⟨_, rfl⟩
    subst hu3
    have hB716 : Below w.heap.size w u3 := hB621.trans (hc3.mono hB621.size)
    have HG717 := Lib.hid (HG622.out.below hc3)
    clear HG622
    have HG718 := Lib.hid (HG623.out.below hc3)
    clear HG623
    have HG719 := Lib.hid (HG624.out.below hc3)
    clear HG624
    have HX720 := Lib.hid (HX625.out.below hc3 HX625.out.lt)
    clear HX625
    have HX721 := Lib.hid (HX626.out.below hc3 HX626.out.lt)
    clear HX626
    have HX722 := Lib.hid (HX627.out.below hc3 HX627.out.lt)
    clear HX627
    have HX723 := Lib.hid (HX628.out.below hc3 HX628.out.lt)
    clear HX628
    have HX724 := Lib.hid (HX629.out.below hc3 HX629.out.lt)
    clear HX629
    have HX725 := Lib.hid (HX630.out.below hc3 HX630.out.lt)
    clear HX630
    have HX726 := Lib.hid (HX631.out.below hc3 HX631.out.lt)
    clear HX631
    have HX727 := Lib.hid (HX632.out.below hc3 HX632.out.lt)
    clear HX632
    have HX728 := Lib.hid (HX633.out.below hc3 HX633.out.lt)
    clear HX633
    have HX729 := Lib.hid (HX634.out.below hc3 HX634.out.lt)
    clear HX634
    have HX730 := Lib.hid (HX635.out.below hc3 HX635.out.lt)
    clear HX635
    have HX731 := Lib.hid (HX636.out.below hc3 HX636.out.lt)
    clear HX636
    have HX732 := Lib.hid (HX637.out.below hc3 HX637.out.lt)
    clear HX637
    have HX733 := Lib.hid (HX638.out.below hc3 HX638.out.lt)
    clear HX638
    have HX734 := Lib.hid (HX639.out.below hc3 HX639.out.lt)
    clear HX639
    clear hc3
    go_upto_region 30 with fail
    have hG : ∃ Gd, Gd = (B2 && (B3 && decide (0 < y))) := ⟨_, rfl⟩
    obtain ⟨Gd, hGd⟩ := hG
    have HGd := Lib.hid hGd; clear hGd
    go_cut [263] from 39 (fun s263 wx => s263 = .bool Gd ∧ wx = u3)
    case first => as_aux_lemma =>
      clear HciStandardGluing HciCapBorder HciWithHandle HciWithCrosscap HciWithBorder HciIsSurface HciEulerNumber HcsStandardGluing HcsCapBorder HcsWithHandle HcsWithCrosscap HcsWithBorder HcsIsSurface HcsEulerNumber HciSurfaceName HcsSurfaceName HciTwice HciBackS HcsBackG HfStd HfName HfTwo HciSum HcsSum HciEA HciEB HciEX HfSum HbA HbB HciOf HcsOf HcsEuD HciEuU HcsIsU HfOf HfOi HX721 HX722 HX723 HX724 HX725 HX726 HX727 HX728 HX729 HX730 HX731 HX732 HX733 HX734 HG717 HG718 HG719 Hsa Hsb Hb Ha htot hsz hd hbig HtR Ht Hs
      cases B2 with
      | false => as_aux_lemma =>
        obtain rfl : Gd = false := HGd.out
        go_wp2
        go_meet
        exact ⟨rfl, rfl⟩
      | true => as_aux_lemma =>
        cases B3 with
        | false => as_aux_lemma =>
          obtain rfl : Gd = false := HGd.out
          go_wp2
          go_meet
          exact ⟨rfl, rfl⟩
        | true => as_aux_lemma =>
          obtain ⟨q735, q736, q737, q738, q739, q740⟩ := HX720.out.six
          by_cases h3 : 0 < y
          · as_aux_lemma =>
            have d3 : decide (0 < y) = true := decide_eq_true h3
            obtain rfl : Gd = true := HGd.out.trans (by rw [d3]; rfl)
            go_wp2
            go_meet
            exact ⟨rfl, rfl⟩
          · as_aux_lemma =>
            have d3 : decide (0 < y) = false := decide_eq_false h3
            obtain rfl : Gd = false := HGd.out.trans (by rw [d3]; rfl)
            clear h3
            go_wp2
            go_meet
            exact ⟨rfl, rfl⟩
    case rest => as_aux_lemma =>
    obtain ⟨rfl, rfl⟩ := hcut
    obtain ⟨u3, huu⟩ : ∃ u, u = wc := ⟨_, rfl⟩
    subst huu
    cases Gd with
    | true => as_aux_lemma =>
      have hk := HGd.out.symm
      rw [Bool.and_eq_true, Bool.and_eq_true, decide_eq_true_eq] at hk
      obtain ⟨k1, k2, k3⟩ := hk
      have k := HfTwo.out k1 k2 k3
      subst k
      clear k1 k2 k3
      obtain ⟨q741, q742, q743, q744, q745, q746⟩ := HX731.out.six
      go_wp2_with fail
      refine (HciTwice.out _).mono ?_
      rintro e w25 ⟨rfl, hb747⟩
      clear q741 q742 q743 q744 q745 q746
      have hB748 : Below w.heap.size w w25 := hB716.trans (hb747.mono hB716.size)
      have HG749 := Lib.hid (HG717.out.below hb747)
      clear HG717
      have HG750 := Lib.hid (HG718.out.below hb747)
      clear HG718
      have HG751 := Lib.hid (HG719.out.below hb747)
      clear HG719
      have HX752 := Lib.hid (HX720.out.below hb747 HX720.out.lt)
      clear HX720
      have HX753 := Lib.hid (HX721.out.below hb747 HX721.out.lt)
      clear HX721
      have HX754 := Lib.hid (HX722.out.below hb747 HX722.out.lt)
      clear HX722
      have HX755 := Lib.hid (HX723.out.below hb747 HX723.out.lt)
      clear HX723
      have HX756 := Lib.hid (HX724.out.below hb747 HX724.out.lt)
      clear HX724
      have HX757 := Lib.hid (HX725.out.below hb747 HX725.out.lt)
      clear HX725
      have HX758 := Lib.hid (HX726.out.below hb747 HX726.out.lt)
      clear HX726
      have HX759 := Lib.hid (HX727.out.below hb747 HX727.out.lt)
      clear HX727
      have HX760 := Lib.hid (HX728.out.below hb747 HX728.out.lt)
      clear HX728
      have HX761 := Lib.hid (HX729.out.below hb747 HX729.out.lt)
      clear HX729
      have HX762 := Lib.hid (HX730.out.below hb747 HX730.out.lt)
      clear HX730
      have HX763 := Lib.hid (HX731.out.below hb747 HX731.out.lt)
      clear HX731
      have HX764 := Lib.hid (HX732.out.below hb747 HX732.out.lt)
      clear HX732
      have HX765 := Lib.hid (HX733.out.below hb747 HX733.out.lt)
      clear HX733
      have HX766 := Lib.hid (HX734.out.below hb747 HX734.out.lt)
      clear HX734
      clear hb747
      have hb767 : Below w25.heap.size w25 (w25.alloc (.cells #[.int .i64 C5.1, .int .i64 C5.2.1, .int .i64 C5.2.2] 25)) := (Below.refl _ _).alloc (Nat.le_refl _) _
      have hB768 : Below w.heap.size w (w25.alloc (.cells #[.int .i64 C5.1, .int .i64 C5.2.1, .int .i64 C5.2.2] 25)) := hB748.trans (hb767.mono hB748.size)
      have HG769 := Lib.hid (HG749.out.below hb767)
      clear HG749
      have HG770 := Lib.hid (HG750.out.below hb767)
      clear HG750
      have HG771 := Lib.hid (HG751.out.below hb767)
      clear HG751
      have HX772 := Lib.hid (HX752.out.below hb767 HX752.out.lt)
      clear HX752
      have HX773 := Lib.hid (HX753.out.below hb767 HX753.out.lt)
      clear HX753
      have HX774 := Lib.hid (HX754.out.below hb767 HX754.out.lt)
      clear HX754
      have HX775 := Lib.hid (HX755.out.below hb767 HX755.out.lt)
      clear HX755
      have HX776 := Lib.hid (HX756.out.below hb767 HX756.out.lt)
      clear HX756
      have HX777 := Lib.hid (HX757.out.below hb767 HX757.out.lt)
      clear HX757
      have HX778 := Lib.hid (HX758.out.below hb767 HX758.out.lt)
      clear HX758
      have HX779 := Lib.hid (HX759.out.below hb767 HX759.out.lt)
      clear HX759
      have HX780 := Lib.hid (HX760.out.below hb767 HX760.out.lt)
      clear HX760
      have HX781 := Lib.hid (HX761.out.below hb767 HX761.out.lt)
      clear HX761
      have HX782 := Lib.hid (HX762.out.below hb767 HX762.out.lt)
      clear HX762
      have HX783 := Lib.hid (HX763.out.below hb767 HX763.out.lt)
      clear HX763
      have HX784 := Lib.hid (HX764.out.below hb767 HX764.out.lt)
      clear HX764
      have HX785 := Lib.hid (HX765.out.below hb767 HX765.out.lt)
      clear HX765
      have HX786 := Lib.hid (HX766.out.below hb767 HX766.out.lt)
      clear HX766
      clear hb767
      have HX787 := Lib.hid (show Blk (w25.alloc (.cells #[.int .i64 C5.1, .int .i64 C5.2.1, .int .i64 C5.2.2] 25)) w25.heap.size 25 #[.int .i64 C5.1, .int .i64 C5.2.1, .int .i64 C5.2.2] from Blk.new w25 _ _)
      obtain ⟨q788, q789, q790, q791, q792, q793⟩ := HX787.out.six
      obtain ⟨q794, q795, q796, q797, q798, q799⟩ := HX781.out.six
      go_wp2
      go_ret
      exact ⟨rfl, hB768⟩
    | false => as_aux_lemma =>
      have mk3 : ∀ w2, Below u3.heap.size u3 w2 → (w2.cell? ⟨Ns, 0, none⟩ = some (.int .i64 x) ∧ w2.cell? ⟨Ns, 1, none⟩ = some (.int .i64 y) ∧ w2.cell? ⟨Ns, 2, none⟩ = some (.int .i64 z) ∧ Below u3.heap.size u3 w2) := fun w2 hw => by
        have bks := HX720.out.below hw HX720.out.lt
        exact ⟨bks.cell 0, bks.cell 1, bks.cell 2, hw⟩
      have Hmk3 := Lib.hid mk3; clear mk3
      have pr3 : ∀ w2, (w2.cell? ⟨Ns, 0, none⟩ = some (.int .i64 x) ∧ w2.cell? ⟨Ns, 1, none⟩ = some (.int .i64 y) ∧ w2.cell? ⟨Ns, 2, none⟩ = some (.int .i64 z) ∧ Below u3.heap.size u3 w2) → Below u3.heap.size u3 w2 := fun w2 h => h.2.2.2
      have Hpr3 := Lib.hid pr3; clear pr3
      have fN := HfName.out
      clear HciStandardGluing HciCapBorder HciWithHandle HciWithCrosscap HciWithBorder HciIsSurface HciEulerNumber HcsStandardGluing HcsCapBorder HcsWithHandle HcsWithCrosscap HcsWithBorder HcsEulerNumber HcsSurfaceName HciTwice HciBackS HcsBackG HfStd HfName HfTwo HciSum HcsSum HciEA HciEB HciEX HfSum HbA HbB HciOf HcsOf HcsEuD HciEuU HcsIsU HfOf HfOi HX720 HX721 HX722 HX723 HX724 HX725 HX726 HX727 HX728 HX729 HX730 HX731 HX732 HX733 HX734 HG717 HG718 HG719 Hsa Hsb Hb Ha htot hsz hd hbig HtR Hs HGd
      go_upto_region 33 with fail
      cases Bi with
      | false => as_aux_lemma =>
        have fN2 : Txt.toList.isEmpty = true := fN
        clear fN
        go_region_held3 (fun w' => w'.cell? ⟨Ns, 0, none⟩ = some (.int .i64 x) ∧ w'.cell? ⟨Ns, 1, none⟩ = some (.int .i64 y) ∧ w'.cell? ⟨Ns, 2, none⟩ = some (.int .i64 z) ∧ Below u3.heap.size u3 w') (first | (with_reducible assumption) | (exact Hmk3.out _ (Below.drew (Below.refl _ _))))
          (first
            | (go_at_call 27; refine (HciSurfaceName.out _ (Ht.out _ (hB716.trans ((Hpr3.out _ (by assumption)).mono hB716.size)))).mono ?_; rintro e v30 ⟨rfl, hb0⟩; have hS0 := held_on Hmk3.out (by assumption) (fun h => Hpr3.out _ h) hb0; have hl0 := Lib.hid (Hpr3.out _ hS0); clear hb0)
            | (go_at_call 24; refine (HcsIsSurface.out _).mono ?_; rintro e v31 ⟨rfl, hb1⟩; have hS1 := held_on Hmk3.out (by assumption) (fun h => Hpr3.out _ h) hb1; have hl1 := Lib.hid (Hpr3.out _ hS1); clear hb1))
        go_wp2
        go_ret
        exact ⟨rfl, hB716.trans (hl1.out.mono hB716.size)⟩
      | true => as_aux_lemma =>
        have fN2 : Txt.toList.isEmpty = false := fN
        clear fN
        go_region_held3 (fun w' => w'.cell? ⟨Ns, 0, none⟩ = some (.int .i64 x) ∧ w'.cell? ⟨Ns, 1, none⟩ = some (.int .i64 y) ∧ w'.cell? ⟨Ns, 2, none⟩ = some (.int .i64 z) ∧ Below u3.heap.size u3 w') (first | (with_reducible assumption) | (exact Hmk3.out _ (Below.drew (Below.refl _ _))))
          (first
            | (go_at_call 27; refine (HciSurfaceName.out _ (Ht.out _ (hB716.trans ((Hpr3.out _ (by assumption)).mono hB716.size)))).mono ?_; rintro e v30 ⟨rfl, hb0⟩; have hS0 := held_on Hmk3.out (by assumption) (fun h => Hpr3.out _ h) hb0; have hl0 := Lib.hid (Hpr3.out _ hS0); clear hb0)
            | (go_at_call 24; refine (HcsIsSurface.out _).mono ?_; rintro e v31 ⟨rfl, hb1⟩; have hS1 := held_on Hmk3.out (by assumption) (fun h => Hpr3.out _ h) hb1; have hl1 := Lib.hid (Hpr3.out _ hS1); clear hb1))
        go_wp2
        go_ret
        exact ⟨rfl, hB716.trans (hl1.out.mono hB716.size)⟩

set_option maxRecDepth 100000 in
theorem contract (H : Type) (enc : TypeId × Value → H) (W : World) (base : Nat) (args : Array Value) (ds gs : List (DataW H)) (before : List MemPlace)
    (hval : ∀ (j : Nat) t v, Tryd.f3.params[j]? = some t → args[j]? = some v → Value.okWide Tryd.prog W .any base t v)
    (hW : DataW.Whole enc Tryd.prog Tryd.f3.params.toList Rows.fnSurfacesSpec.vars false W args.toList ds gs before) (hL : laidMetH Tryd.prog Rows.fnSurfacesRow.laid W) :
    Calls Tryd.prog 3 args W fun e W' => ∃ v, e = .returned v ∧ Rows.fnSurfacesSpec.post enc Tryd.prog Tryd.f3 false true false false W args v W' := by
  have hW' := hW
  obtain ⟨p, q, hA0, hV, rfl, hfz, hnd⟩ := hW
  have hA : DataW.TrodAll enc Tryd.prog W 0 (fun _ => true) true Tryd.f3.params.toList args.toList ds p := hA0
  rw [Tryd.params3] at hA hval
  obtain ⟨v0, vs0, d0, ds0, p0, q0, hargs, rfl, rfl, h0, r0⟩ := trodAll_cons hA
  obtain ⟨rfl, rfl, rfl⟩ := trodAll_nil r0
  obtain rfl : args = #[v0] := by cases args; simp_all
  obtain ⟨rfl, rfl⟩ := trodVars_none hV
  have k0 := h0
  obtain ⟨acode, ccode, lcode, rfl, wcode⟩ := Read.bytes_of (hval 0 22 v0 rfl rfl) h0
  clear hA0
  simp only [List.append_nil] at hW'
  refine (law acode ccode lcode W wcode (table hL)).mono fun e W' ⟨he, hg⟩ => ?_
  subst he
  exact ⟨_, rfl, post_of_below (pv := []) hW' (fun _ _ _ => trodAll_cons_mk (shut_bool Tryd.underlying4 _) trodAll_mk0)
    (fun sp hs => trodAll_cons_mk (trod_keeps (t := 22) (by kernel_rfl) (by kernel_rfl) (by kernel_rfl) k0 hg (fun x hx => hW'.lt x (by simp_all)) (fun x hx => hs x (by simp_all))) (trodAll_mk0))
    (fun _ _ => rfl) (by simp) hg (ok_one (by kernel_rfl) rfl (okWide_bool_mk Tryd.underlying4 _))⟩

theorem laid_met (os : Os) : laidMetH Tryd.prog Rows.fnSurfacesRow.laid ((World.doorLaid Tryd.prog 24 os).forCall (fun _ _ => 0) ⟨#[], #[.slice none 0 0], []⟩).memory :=
  Low.met os #[.slice none 0 0] Rows.fnSurfacesRow.laid (Rows.fnSurfacesRow.laid.map (·.1)) (by rfl)
theorem reads (os : Os) {H : Type} (enc : TypeId × Value → H) : ∃ places, DataW.whole enc Tryd.prog ((World.doorLaid Tryd.prog 24 os).forCall (fun _ _ => 0) ⟨#[], #[.slice none 0 0], []⟩).memory Tryd.f3.params.toList Rows.fnSurfacesSpec.vars false (#[.slice none 0 0] : Array Value).toList 8 = some ([.nil], [], places) :=
  ⟨[], by kernel_rfl⟩

set_option maxRecDepth 100000 in
theorem lifted (os : Os) (started : os.Started) (H : Type) (enc : TypeId × Value → H) (F : Stop.Interp) :
    ReturnsInHanded {} Tryd.checked os 3 .any ((OpenSpec.ofChange Rows.fnSurfacesSpec).preRow enc Tryd.prog Tryd.f3 Rows.fnSurfacesRow.domain false Rows.fnSurfacesRow.laid) (((OpenSpec.ofChange Rows.fnSurfacesSpec).at F).post enc Tryd.prog Tryd.f3 false true false false) := by
  obtain ⟨places, hx⟩ := reads os enc
  refine returnsInHanded_of_row (C := Tryd.checked) (s := OpenSpec.ofChange Rows.fnSurfacesSpec) Low.own started (by kernel_rfl) Tryd.func3
    (witness_row_atRef (enc := enc) (C := Tryd.checked) false (World.doorLaid Tryd.prog 24 os) #[.slice none 0 0] (by unfold World.doorLaid; rfl) (Low.shapeB os #[.slice none 0 0]) (Low.shapeR os #[.slice none 0 0]) (by kernel_rfl)
      (OpenSpec.preRow_of_cond 8 hx (by kernel_rfl) (fun k hk => by cases hk) (by kernel_rfl) (laid_met os))) ?_
  intro W base args ds gs before hval hW _ _ _ hL hShaped _
  exact contract H enc W base args ds gs before hval hW hL

theorem said : Rows.FnSurfacesSaid :=
  OpenClaim.holds_of_cond 3 Tryd.f3 rfl rfl rfl rfl rfl rfl rfl ⟨rfl, rfl, rfl, rfl, rfl⟩ rfl rfl rfl rfl rfl (by kernel_rfl) Tryd.func3 (by kernel_rfl)
    (of_decide_eq_true (by kernel_rfl)) (by unfold Func.isWrapper; first | (rw [if_pos (by decide +kernel)]; kernel_rfl) | (rw [if_neg (by decide +kernel)]; exact ⟨rfl, rfl⟩))
    (fun os started H enc _ F => by rw [OpenClaim.pre_eq_preRow]; exact lifted os started H enc F)

theorem looks (f : FuncId) (fn : Func) (hf : Tryd.pinned.checked.prog.funcNamed "loop.example/g03105/laws.FnSurfaces" = some f) (hfn : Tryd.pinned.checked.prog.funcs[f]? = some fn) :
    false = Tryd.pinned.checked.prog.looks [] ∧ ∀ (j : Nat) t, fn.params[j]? = some t → Tryd.pinned.checked.prog.wantsStandIn t = false := by
  obtain rfl : f = 3 := Option.some.inj ((show Tryd.prog.funcNamed "loop.example/g03105/laws.FnSurfaces" = some 3 by kernel_rfl).symm.trans hf) |>.symm
  obtain rfl : fn = Tryd.f3 := (Option.some.inj (Tryd.func3.symm.trans hfn)).symm
  refine ⟨by kernel_rfl, fun j t ht => ?_⟩
  rw [Tryd.params3] at ht
  have hm : t ∈ [22] := by simpa using Array.mem_of_getElem? ht
  have hall : ([22].all fun u => !Tryd.prog.wantsStandIn u) = true := by kernel_rfl
  exact (show Tryd.prog.wantsStandIn t = false by simpa using List.all_eq_true.1 hall t hm)

theorem card : Rows.FnSurfacesCardSaid :=
  Claim7.holds_tied_plain_at .later [] _ _ _ _ said (fun _ h => by cases h) (by kernel_rfl) (fun _ h => by cases h) fnSurfaces_row_tie rfl ⟨rfl, rfl⟩ (by kernel_rfl) rfl looks (by kernel_rfl)
end Go.Proofs.YtodgongemoabiaaDoor.fnSurfaces
