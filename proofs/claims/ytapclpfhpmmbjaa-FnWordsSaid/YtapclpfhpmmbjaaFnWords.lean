/-
  For every draw: words are parsed from their text, reducing keeps the letters' sums, conjugate words have turned cores.
-/
import Derived.Test.YtapclpfhpmmbjaaBase
import Derived.Test.YtapclpfhpmmbjaaLow
import Derived.Test.YtapclpfhpmmbjaaSlice
import Derived.Test.YtapclpfhpmmbjaaInts
import Derived.Test.YtapclpfhpmmbjaaWord
import Derived.Test.YtapclpfhpmmbjaaIsWord
import Derived.Test.YtapclpfhpmmbjaaReduce
import Derived.Test.YtapclpfhpmmbjaaReduceSpec
import Derived.Test.YtapclpfhpmmbjaaAppend
import Derived.Test.YtapclpfhpmmbjaaCore
import Derived.Test.YtapclpfhpmmbjaaSums
import Derived.Test.YtapclpfhpmmbjaaConcat
import Derived.Test.YtapclpfhpmmbjaaTurn
import Derived.Test.YtapclpfhpmmbjaaConj
import Derived.Test.YtapclpfhpmmbjaaBytes
import Derived.Test.YtapclpfhpmmbjaaWordText
import Derived.Test.YtapclpfhpmmbjaaIter
import Derived.Test.YtapclpfhpmmbjaaInvert
import Derived.Test.YtapclpfhpmmbjaaProd
import Derived.Test.YtapclpfhpmmbjaaParseWord
import Derived.Test.YtapclpfhpmmbjaaParseImpl
import Derived.Test.YtapclpfhpmmbjaaDraw
import Derived.Test.YtapclpfhpmmbjaaReadBytes
import Derived.Test.YtapclpfhpmmbjaaDrawWord
import Derived.Test.YtapclpfhpmmbjaaDrawWord2
import Derived.Test.YtapclpfhpmmbjaaWordLaw
import Derived.Test.YtapclpfhpmmbjaaSame
import Derived.Deep.DeepWitnessRowRef
import Derived.OpenShut
import Derived.Deep.DeepHandedRow
import Derived.LaidMore
namespace Go.Proofs.Ytapclpfhpmmbjaa.fnWords
open Go.ChangeShapes Go.WideShapes Go.ChangeAt Go.RowKit Go.Sort
open Go.ChangeMaps (open_string)

def Done (w : World) (e : Ending) (w' : World) : Prop := e = .returned (.bool true) ∧ Below w.heap.size w w'

set_option maxRecDepth 100000 in
set_option maxHeartbeats 8000000 in
theorem law (a : Option Addr) (c : Nat) (l : List Int) (w : World) (hh : RowAt w a (byteCells l) ∧ l.length ≤ maxLen ∧ ∀ x ∈ l, 0 ≤ x ∧ x ≤ 255) :
    Calls Try.prog 3 #[.slice a l.length c] w (Done w) := by
  obtain ⟨ha, hl, hb⟩ := hh
  unfold maxLen at hl
  have Hb := Lib.hid hb; have Ha := Lib.hid ha
  clear hb ha
  by_cases hbig : 1048576 < l.length
  · have hd : decide (1048576 < l.length) = true := by simpa using hbig
    go_enter Try.func3, Try.ntmps3
    go_wp2_with fail
    refine (big a l.length c w (by omega)).mono ?_
    rintro e w' ⟨rfl, rfl⟩
    go_wp2
    go_ret
    exact ⟨rfl, Below.refl _ _⟩
  · have hd : decide (1048576 < l.length) = false := by simpa using hbig
    have hsz : l.length ≤ 1048576 := by omega
    have hB0 := Below.refl w.heap.size w
    have HR0 := Lib.hid (Rows.nil w)
    go_enter Try.func3, Try.ntmps3
    go_wp2_with fail
    refine (big a l.length c w (by omega)).mono ?_
    rintro e w' ⟨rfl, rfl⟩
    go_wp2_with fail
    refine (drawIsWord a c l w (Ha.out.below hB0) Hb.out hsz).mono ?_
    rintro e w2 ⟨aw, cw, lw, rfl, hcw, hrw, hlw, _, hb1⟩
    have hB2 : Below w.heap.size w w2 := hB0.trans (hb1.mono hB0.size)
    have HR3 := Lib.hid (Rows.cons (HR0.out.below hb1) hrw)
    clear HR0
    clear hb1
    clear hrw
    go_wp2_with fail
    refine (drawParseWord a c l w2 (Ha.out.below hB2) Hb.out hsz).mono ?_
    rintro e w3 ⟨t, rfl, ht, hb4⟩
    have hB5 : Below w.heap.size w w3 := hB2.trans (hb4.mono hB2.size)
    have HR6 := Lib.hid (HR3.out.below hb4)
    clear HR3
    clear hb4
    have hP := fun W => impl_ParseWord t W (by omega)
    have hQ := fun W => spec_ParseWord t W (by omega)
    have hPl := Word.parsed_len t.data.toList
    generalize Word.parsed t.data.toList = Px at *
    generalize decide (Word.Parses t.data.toList) = Pok at *
    have HP := Lib.hid hP; have HQ := Lib.hid hQ; have HPl := Lib.hid hPl; clear hP hQ hPl
    go_wp2_with fail
    refine (HP.out w3).mono ?_
    rintro e w4 ⟨a7, c8, rfl, hc8, _, hf9, hb10⟩
    have hB11 : Below w.heap.size w w4 := hB5.trans (hb10.mono hB5.size)
    have HR12 := Lib.hid (Rows.cons (HR6.out.below hb10) hf9.row)
    clear HR6
    clear hf9 hb10
    go_wp2_with fail
    refine (HQ.out w4).mono ?_
    rintro e w5 ⟨a13, c14, rfl, hc14, _, hf15, hb16⟩
    have hB17 : Below w.heap.size w w5 := hB11.trans (hb16.mono hB11.size)
    have HR18 := Lib.hid (Rows.cons (HR12.out.below hb16) hf15.row)
    clear HR12
    clear hf15 hb16
    go_wp2_with fail
    refine (drawTurnWord a c l w5 (Ha.out.below hB17) Hb.out hsz).mono ?_
    rintro e w6 ⟨ak, ck, lk, nk, rfl, hck, hrk, hlk, _, hn0, hn1, hb19⟩
    have hB20 : Below w.heap.size w w6 := hB17.trans (hb19.mono hB17.size)
    have HR21 := Lib.hid (Rows.cons (HR18.out.below hb19) hrk)
    clear HR18
    clear hb19
    clear hrk
    go_wp2_with fail
    refine (drawAreConjugate a c l w6 (Ha.out.below hB20) Hb.out hsz).mono ?_
    rintro e w7 ⟨av, cv, lv, au, cu, lu, rfl, hrv, hlv, hru, hlu, hb22⟩
    have hB23 : Below w.heap.size w w7 := hB20.trans (hb22.mono hB20.size)
    have HR24 := Lib.hid (Rows.cons (HR21.out.below hb22) hrv)
    clear HR21
    have HR25 := Lib.hid (Rows.cons HR24.out hru)
    clear HR24
    clear hb22
    clear hrv hru
    have ciIsWord := fun (q0 : Option Addr) (d0 : Nat) (W : World) (k0 : RowAt W q0 (intCells lw)) => impl_IsWord q0 d0 lw W k0 (Nat.le_trans hlw (by decide))
    have csIsWord := fun (q0 : Option Addr) (d0 : Nat) (W : World) (k0 : RowAt W q0 (intCells lw)) => spec_IsWord q0 d0 lw W k0 (Nat.le_trans hlw (by decide))
    have ciInverse := fun (q0 : Option Addr) (d0 : Nat) (W : World) (k0 : RowAt W q0 (intCells lw)) => impl_InverseWord q0 d0 lw W k0 (Nat.le_trans hlw (by decide))
    have csInverse := fun (q0 : Option Addr) (d0 : Nat) (W : World) (k0 : RowAt W q0 (intCells lw)) => spec_InverseWord q0 d0 lw W k0 (Nat.le_trans hlw (by decide))
    have ciReduce := fun (q0 : Option Addr) (d0 : Nat) (W : World) (k0 : RowAt W q0 (intCells lw)) => impl_ReduceWord q0 d0 lw W k0 (Nat.le_trans hlw (by decide))
    have csReduce := fun (q0 : Option Addr) (d0 : Nat) (W : World) (k0 : RowAt W q0 (intCells lw)) => spec_ReduceWord q0 d0 lw W k0 (Nat.le_trans hlw (by decide))
    have ciCore := fun (q0 : Option Addr) (d0 : Nat) (W : World) (k0 : RowAt W q0 (intCells lw)) => impl_CoreWord q0 d0 lw W k0 (Nat.le_trans hlw (by decide))
    have csCore := fun (q0 : Option Addr) (d0 : Nat) (W : World) (k0 : RowAt W q0 (intCells lw)) => spec_CoreWord q0 d0 lw W k0 (Nat.le_trans hlw (by decide))
    have ciSums := fun (q0 : Option Addr) (d0 : Nat) (W : World) (k0 : RowAt W q0 (intCells lw)) => impl_LetterSums q0 d0 lw W k0 (Nat.le_trans hlw (by decide))
    have csSums := fun (q0 : Option Addr) (d0 : Nat) (W : World) (k0 : RowAt W q0 (intCells lw)) => spec_LetterSums q0 d0 lw W k0 (Nat.le_trans hlw (by decide))
    have ciText := fun (q0 : Option Addr) (d0 : Nat) (W : World) (k0 : RowAt W q0 (intCells lw)) => impl_WordText q0 d0 lw W k0 (Nat.le_trans hlw (by decide))
    have csText := fun (q0 : Option Addr) (d0 : Nat) (W : World) (k0 : RowAt W q0 (intCells lw)) => spec_WordText q0 d0 lw W k0 (Nat.le_trans hlw (by decide))
    have ciTurn := fun (q0 : Option Addr) (W : World) (k0 : RowAt W q0 (intCells lk)) (hq : lk.length ≤ ck) => impl_TurnWord q0 ck lk nk W k0 (Nat.le_trans hlk (by decide)) hq hn0 hn1
    have ciConj := fun (q0 : Option Addr) (d0 : Nat) (q1 : Option Addr) (d1 : Nat) (W : World) (k0 : RowAt W q0 (intCells lv)) (k1 : RowAt W q1 (intCells lu)) => impl_AreConjugate q0 d0 lv q1 d1 lu W k0 (Nat.le_trans hlv (by decide)) k1 (Nat.le_trans hlu (by decide))
    have ciProd := fun (q0 : Option Addr) (d0 : Nat) (q1 : Option Addr) (d1 : Nat) (W : World) (k0 : RowAt W q0 (intCells lv)) (k1 : RowAt W q1 (intCells lu)) => impl_ProductWord q0 d0 lv q1 d1 lu W k0 (Nat.le_trans hlv (by decide)) k1 (Nat.le_trans hlu (by decide))
    have csTurn := fun (q0 : Option Addr) (W : World) (k0 : RowAt W q0 (intCells lk)) (hq : lk.length ≤ ck) => spec_TurnWord q0 ck lk nk W k0 (Nat.le_trans hlk (by decide)) hq hn0 hn1
    have csConj := fun (q0 : Option Addr) (d0 : Nat) (q1 : Option Addr) (d1 : Nat) (W : World) (k0 : RowAt W q0 (intCells lv)) (k1 : RowAt W q1 (intCells lu)) => spec_AreConjugate q0 d0 lv q1 d1 lu W k0 (Nat.le_trans hlv (by decide)) k1 (Nat.le_trans hlu (by decide))
    have csProd := fun (q0 : Option Addr) (d0 : Nat) (q1 : Option Addr) (d1 : Nat) (W : World) (k0 : RowAt W q0 (intCells lv)) (k1 : RowAt W q1 (intCells lu)) => spec_ProductWord q0 d0 lv q1 d1 lu W k0 (Nat.le_trans hlv (by decide)) k1 (Nat.le_trans hlu (by decide))
    have cvRed := fun (q0 : Option Addr) (d0 : Nat) (W : World) (k0 : RowAt W q0 (intCells lv)) => impl_ReduceWord q0 d0 lv W k0 (Nat.le_trans hlv (by decide))
    have cvSums := fun (q0 : Option Addr) (d0 : Nat) (W : World) (k0 : RowAt W q0 (intCells lv)) => impl_LetterSums q0 d0 lv W k0 (Nat.le_trans hlv (by decide))
    have cuSums := fun (q0 : Option Addr) (d0 : Nat) (W : World) (k0 : RowAt W q0 (intCells lu)) => impl_LetterSums q0 d0 lu W k0 (Nat.le_trans hlu (by decide))
    have cuInv := fun (q0 : Option Addr) (d0 : Nat) (W : World) (k0 : RowAt W q0 (intCells lu)) => impl_InverseWord q0 d0 lu W k0 (Nat.le_trans hlu (by decide))
    have lIw := inverse_len lw
    have lRw := reduce_len lw
    have lCw := coreOf_len lw
    have lSw := sumsOf_len lw
    have lTk := turned_len lk nk
    have lPr := prod_len lv lu
    have lIu := inverse_len lu
    have lRv := reduce_len lv
    have lSv := sumsOf_len lv
    have lSu := sumsOf_len lu
    have crSums := fun (q0 : Option Addr) (d0 : Nat) (W : World) (k0 : RowAt W q0 (intCells (Word.reduce lw))) => impl_LetterSums q0 d0 (Word.reduce lw) W k0 (Nat.le_trans lRw (by decide))
    have crRed := fun (q0 : Option Addr) (d0 : Nat) (W : World) (k0 : RowAt W q0 (intCells (Word.reduce lw))) => impl_ReduceWord q0 d0 (Word.reduce lw) W k0 (Nat.le_trans lRw (by decide))
    have ciInv := fun (q0 : Option Addr) (d0 : Nat) (W : World) (k0 : RowAt W q0 (intCells (Word.inverse lw))) => impl_InverseWord q0 d0 (Word.inverse lw) W k0 (Nat.le_trans lIw (by decide))
    have ccConj := fun (q0 : Option Addr) (d0 : Nat) (q1 : Option Addr) (d1 : Nat) (W : World) (k0 : RowAt W q0 (intCells lw)) (k1 : RowAt W q1 (intCells (Word.coreOf lw))) => impl_AreConjugate q0 d0 lw q1 d1 (Word.coreOf lw) W k0 (Nat.le_trans hlw (by decide)) k1 (Nat.le_trans lCw (by decide))
    have cpProd := fun (q0 : Option Addr) (d0 : Nat) (q1 : Option Addr) (d1 : Nat) (W : World) (k0 : RowAt W q0 (intCells (Word.product lv lu))) (k1 : RowAt W q1 (intCells (Word.inverse lu))) => impl_ProductWord q0 d0 (Word.product lv lu) q1 d1 (Word.inverse lu) W k0 (Nat.le_trans lPr (by decide)) k1 (Nat.le_trans lIu (by decide))
    have cwProd := fun (q0 : Option Addr) (d0 : Nat) (q1 : Option Addr) (d1 : Nat) (W : World) (k0 : RowAt W q0 (intCells lw)) (k1 : RowAt W q1 (intCells (Word.inverse lw))) => impl_ProductWord q0 d0 lw q1 d1 (Word.inverse lw) W k0 (Nat.le_trans hlw (by decide)) k1 (Nat.le_trans lIw (by decide))
    have lQ := prod_len (Word.product lv lu) (Word.inverse lu)
    have hTs := said_len lw
    have cText := fun (W : World) => impl_ParseWord (ByteArray.mk (Word.said lw).toArray) W (by omega)
    have hTd : (ByteArray.mk (Word.said lw).toArray).data.toList = Word.said lw := rfl
    rw [hTd, Word.said_parses] at cText
    clear hTd hTs
    have fNot : Word.IsW lw → Word.parsed (Word.said lw) = lw := Word.said_parsed
    have fRn : ¬ Word.IsW lw → Word.reduce lw = [] := fun h => if_neg h
    have fS : Word.IsW lw → Word.sumsOf (Word.reduce lw) = Word.sumsOf lw := fun h => by rw [show Word.reduce lw = Word.red lw from if_pos h]; exact Word.sumsOf_red h
    have fR : Word.IsW lw → Word.reduce (Word.reduce lw) = Word.reduce lw := fun h => by rw [show Word.reduce lw = Word.red lw from if_pos h, show Word.reduce (Word.red lw) = Word.red (Word.red lw) from if_pos (Word.red_w h), Word.red_red]
    have fI : Word.IsW lw → Word.inverse (Word.inverse lw) = lw := fun h => by rw [inverse_of h, inverse_of (Word.inv_w h), Word.inv_inv]
    have fC : Word.IsW lw → conjB lw (Word.coreOf lw) = true := Word.conj_core
    have fN : Word.IsW lw → Word.product lw (Word.inverse lw) = [] := fun h => by rw [inverse_of h]; unfold Word.product; rw [Word.red_inv]; exact ite_self _
    have fQ : Word.IsW (lv ++ lu) → Word.IsW (Word.product lv lu ++ Word.inverse lu) → Word.product (Word.product lv lu) (Word.inverse lu) = Word.reduce lv := fun h1 h2 => by rw [prod_of h2, prod_of h1, inverse_of ((Word.prod_iff _ _).1 h1).2.1, Word.red_left, Word.red_cancel, show Word.reduce lv = Word.red lv from if_pos ((Word.prod_iff _ _).1 h1).1]
    have fJ : conjB lv lu = true → Word.sumsOf lu = Word.sumsOf lv := fun h => (Word.sumsOf_conj h).symm
    have gQ : decide (Word.IsW (lv ++ lu)) = true → decide (Word.IsW (Word.product lv lu ++ Word.inverse lu)) = true → Word.product (Word.product lv lu) (Word.inverse lu) = Word.reduce lv := fun h1 h2 => fQ (of_decide_eq_true h1) (of_decide_eq_true h2)
    replace fNot := fun (h : decide (Word.IsW lw) = true) => fNot (of_decide_eq_true h)
    replace fS := fun (h : decide (Word.IsW lw) = true) => fS (of_decide_eq_true h)
    replace fR := fun (h : decide (Word.IsW lw) = true) => fR (of_decide_eq_true h)
    replace fI := fun (h : decide (Word.IsW lw) = true) => fI (of_decide_eq_true h)
    replace fC := fun (h : decide (Word.IsW lw) = true) => fC (of_decide_eq_true h)
    replace fN := fun (h : decide (Word.IsW lw) = true) => fN (of_decide_eq_true h)
    replace fRn := fun (h : decide (Word.IsW lw) = false) => fRn (of_decide_eq_false h)
    clear fQ
    generalize decide (Word.IsW (Word.product lv lu ++ Word.inverse lu)) = Fn at *
    generalize decide (Word.IsW (lw ++ Word.inverse lw)) = Fw at *
    generalize decide (Word.IsW (lv ++ lu)) = On at *
    generalize decide (Word.IsW lw) = BW at *
    generalize Word.product (Word.product lv lu) (Word.inverse lu) = Qp at *
    generalize Word.product lw (Word.inverse lw) = Nn at *
    generalize conjB lw (Word.coreOf lw) = Jc at *
    generalize Word.sumsOf (Word.reduce lw) = Sr at *
    generalize Word.reduce (Word.reduce lw) = Rr at *
    generalize Word.inverse (Word.inverse lw) = Ii at *
    generalize Word.parsed (Word.said lw) = Zw at *
    generalize ByteArray.mk (Word.said lw).toArray = Tx at *
    generalize Word.inverse lw = Iw at *
    generalize Word.reduce lw = Rw at *
    generalize Word.coreOf lw = Cw at *
    generalize Word.sumsOf lw = Sw at *
    generalize Word.turned lk nk = Tk at *
    generalize Word.product lv lu = Pr at *
    generalize Word.inverse lu = Iu at *
    generalize Word.reduce lv = Rv at *
    generalize Word.sumsOf lv = Sv at *
    generalize Word.sumsOf lu = Su at *
    generalize conjB lv lu = Cj at *
    have HciIsWord := Lib.hid ciIsWord; have HcsIsWord := Lib.hid csIsWord; have HciInverse := Lib.hid ciInverse; have HcsInverse := Lib.hid csInverse; have HciReduce := Lib.hid ciReduce; have HcsReduce := Lib.hid csReduce; have HciCore := Lib.hid ciCore; have HcsCore := Lib.hid csCore; have HciSums := Lib.hid ciSums; have HcsSums := Lib.hid csSums; have HciText := Lib.hid ciText; have HcsText := Lib.hid csText; have HciTurn := Lib.hid ciTurn; have HcsTurn := Lib.hid csTurn; have HciConj := Lib.hid ciConj; have HcsConj := Lib.hid csConj; have HciProd := Lib.hid ciProd; have HcsProd := Lib.hid csProd; have HcvRed := Lib.hid cvRed; have HcvSums := Lib.hid cvSums; have HcuSums := Lib.hid cuSums; have HcuInv := Lib.hid cuInv; have HcrSums := Lib.hid crSums; have HcrRed := Lib.hid crRed; have HciInv := Lib.hid ciInv; have HccConj := Lib.hid ccConj; have HcpProd := Lib.hid cpProd; have HcwProd := Lib.hid cwProd; have HcText := Lib.hid cText; have HlIw := Lib.hid lIw; have HlRw := Lib.hid lRw; have HlCw := Lib.hid lCw; have HlSw := Lib.hid lSw; have HlTk := Lib.hid lTk; have HlPr := Lib.hid lPr; have HlIu := Lib.hid lIu; have HlRv := Lib.hid lRv; have HlSv := Lib.hid lSv; have HlSu := Lib.hid lSu; have HlQ := Lib.hid lQ; have HfNot := Lib.hid fNot; have HfRn := Lib.hid fRn; have HfS := Lib.hid fS; have HfR := Lib.hid fR; have HfI := Lib.hid fI; have HfC := Lib.hid fC; have HfN := Lib.hid fN; have HfJ := Lib.hid fJ; have HgQ := Lib.hid gQ
    clear ciIsWord csIsWord ciInverse csInverse ciReduce csReduce ciCore csCore ciSums csSums ciText csText ciTurn csTurn ciConj csConj ciProd csProd cvRed cvSums cuSums cuInv crSums crRed ciInv ccConj cpProd cwProd cText lIw lRw lCw lSw lTk lPr lIu lRv lSv lSu lQ fNot fRn fS fR fI fC fN fJ gQ
    go_wp2_with fail
    refine (HciProd.out av cv au cu w7 (HR25.out.get av lv (by simp)) (HR25.out.get au lu (by simp))).mono ?_
    rintro e w8 ⟨a26, c27, rfl, hc27, _, hf28, hb29⟩
    have hB30 : Below w.heap.size w w8 := hB23.trans (hb29.mono hB23.size)
    have HR31 := Lib.hid (Rows.cons (HR25.out.below hb29) hf28.row)
    clear HR25
    clear hf28 hb29
    go_wp2_with fail
    refine (HcsProd.out av cv au cu w8 (HR31.out.get av lv (by simp)) (HR31.out.get au lu (by simp))).mono ?_
    rintro e w9 ⟨a32, c33, rfl, hc33, _, hf34, hb35⟩
    have hB36 : Below w.heap.size w w9 := hB30.trans (hb35.mono hB30.size)
    have HR37 := Lib.hid (Rows.cons (HR31.out.below hb35) hf34.row)
    clear HR31
    clear hf34 hb35
    go_wp2_with fail
    refine (HciIsWord.out aw cw w9 (HR37.out.get aw lw (by simp))).mono ?_
    rintro e w10 ⟨rfl, hb38⟩
    have hB39 : Below w.heap.size w w10 := hB36.trans (hb38.mono hB36.size)
    have HR40 := Lib.hid (HR37.out.below hb38)
    clear HR37
    clear hb38
    go_wp2_with fail
    refine (HcsIsWord.out aw cw w10 (HR40.out.get aw lw (by simp))).mono ?_
    rintro e w11 ⟨rfl, hb41⟩
    have hB42 : Below w.heap.size w w11 := hB39.trans (hb41.mono hB39.size)
    have HR43 := Lib.hid (HR40.out.below hb41)
    clear HR40
    clear hb41
    go_wp2_with fail
    refine (sameInts_eq a7 a13 c8 c14 Px w11 (HR43.out.get a7 Px (by simp)) (HR43.out.get a13 Px (by simp)) (Nat.le_trans HPl.out (by decide))).mono ?_
    rintro e w12 ⟨rfl, hb44⟩
    have hB45 : Below w.heap.size w w12 := hB42.trans (hb44.mono hB42.size)
    have HR46 := Lib.hid (HR43.out.below hb44)
    clear HR43
    clear hb44
    go_wp2_with fail
    refine (HciTurn.out ak w12 (HR46.out.get ak lk (by simp)) hck).mono ?_
    rintro e w13 ⟨a47, c48, rfl, hc48, _, hf49, hb50⟩
    have hB51 : Below w.heap.size w w13 := hB45.trans (hb50.mono hB45.size)
    have HR52 := Lib.hid (Rows.cons (HR46.out.below hb50) hf49.row)
    clear HR46
    clear hf49 hb50
    go_wp2_with fail
    refine (HcsTurn.out ak w13 (HR52.out.get ak lk (by simp)) hck).mono ?_
    rintro e w14 ⟨a53, c54, rfl, hc54, _, hf55, hb56⟩
    have hB57 : Below w.heap.size w w14 := hB51.trans (hb56.mono hB51.size)
    have HR58 := Lib.hid (Rows.cons (HR52.out.below hb56) hf55.row)
    clear HR52
    clear hf55 hb56
    go_wp2_with fail
    refine (sameInts_eq a47 a53 c48 c54 Tk w14 (HR58.out.get a47 Tk (by simp)) (HR58.out.get a53 Tk (by simp)) (Nat.le_trans HlTk.out (by decide))).mono ?_
    rintro e w15 ⟨rfl, hb59⟩
    have hB60 : Below w.heap.size w w15 := hB57.trans (hb59.mono hB57.size)
    have HR61 := Lib.hid (HR58.out.below hb59)
    clear HR58
    clear hb59
    go_wp2_with fail
    refine (HciConj.out av cv au cu w15 (HR61.out.get av lv (by simp)) (HR61.out.get au lu (by simp))).mono ?_
    rintro e w16 ⟨rfl, hb62⟩
    have hB63 : Below w.heap.size w w16 := hB60.trans (hb62.mono hB60.size)
    have HR64 := Lib.hid (HR61.out.below hb62)
    clear HR61
    clear hb62
    go_wp2_with fail
    refine (HcsConj.out av cv au cu w16 (HR64.out.get av lv (by simp)) (HR64.out.get au lu (by simp))).mono ?_
    rintro e w17 ⟨rfl, hb65⟩
    have hB66 : Below w.heap.size w w17 := hB63.trans (hb65.mono hB63.size)
    have HR67 := Lib.hid (HR64.out.below hb65)
    clear HR64
    clear hb65
    go_wp2_with fail
    refine (sameInts_eq a26 a32 c27 c33 Pr w17 (HR67.out.get a26 Pr (by simp)) (HR67.out.get a32 Pr (by simp)) (Nat.le_trans HlPr.out (by decide))).mono ?_
    rintro e w18 ⟨rfl, hb68⟩
    have hB69 : Below w.heap.size w w18 := hB66.trans (hb68.mono hB66.size)
    have HR70 := Lib.hid (HR67.out.below hb68)
    clear HR67
    clear hb68
    go_wp2_with fail
    refine (HciInverse.out aw cw w18 (HR70.out.get aw lw (by simp))).mono ?_
    rintro e w19 ⟨a71, c72, rfl, hc72, _, hf73, hb74⟩
    have hB75 : Below w.heap.size w w19 := hB69.trans (hb74.mono hB69.size)
    have HR76 := Lib.hid (Rows.cons (HR70.out.below hb74) hf73.row)
    clear HR70
    clear hf73 hb74
    go_wp2_with fail
    refine (HcsInverse.out aw cw w19 (HR76.out.get aw lw (by simp))).mono ?_
    rintro e w20 ⟨a77, c78, rfl, hc78, _, hf79, hb80⟩
    have hB81 : Below w.heap.size w w20 := hB75.trans (hb80.mono hB75.size)
    have HR82 := Lib.hid (Rows.cons (HR76.out.below hb80) hf79.row)
    clear HR76
    clear hf79 hb80
    go_wp2_with fail
    refine (sameInts_eq a71 a77 c72 c78 Iw w20 (HR82.out.get a71 Iw (by simp)) (HR82.out.get a77 Iw (by simp)) (Nat.le_trans HlIw.out (by decide))).mono ?_
    rintro e w21 ⟨rfl, hb83⟩
    have hB84 : Below w.heap.size w w21 := hB81.trans (hb83.mono hB81.size)
    have HR85 := Lib.hid (HR82.out.below hb83)
    clear HR82
    clear hb83
    go_wp2_with fail
    refine (HciReduce.out aw cw w21 (HR85.out.get aw lw (by simp))).mono ?_
    rintro e w22 ⟨a86, c87, rfl, hc87, _, hf88, hb89⟩
    have hB90 : Below w.heap.size w w22 := hB84.trans (hb89.mono hB84.size)
    have HR91 := Lib.hid (Rows.cons (HR85.out.below hb89) hf88.row)
    clear HR85
    clear hf88 hb89
    go_wp2_with fail
    refine (HcsReduce.out aw cw w22 (HR91.out.get aw lw (by simp))).mono ?_
    rintro e w23 ⟨a92, c93, rfl, hc93, _, hf94, hb95⟩
    have hB96 : Below w.heap.size w w23 := hB90.trans (hb95.mono hB90.size)
    have HR97 := Lib.hid (Rows.cons (HR91.out.below hb95) hf94.row)
    clear HR91
    clear hf94 hb95
    go_wp2_with fail
    refine (sameInts_eq a86 a92 c87 c93 Rw w23 (HR97.out.get a86 Rw (by simp)) (HR97.out.get a92 Rw (by simp)) (Nat.le_trans HlRw.out (by decide))).mono ?_
    rintro e w24 ⟨rfl, hb98⟩
    have hB99 : Below w.heap.size w w24 := hB96.trans (hb98.mono hB96.size)
    have HR100 := Lib.hid (HR97.out.below hb98)
    clear HR97
    clear hb98
    go_wp2_with fail
    refine (HciCore.out aw cw w24 (HR100.out.get aw lw (by simp))).mono ?_
    rintro e w25 ⟨a101, c102, rfl, hc102, _, hf103, hb104⟩
    have hB105 : Below w.heap.size w w25 := hB99.trans (hb104.mono hB99.size)
    have HR106 := Lib.hid (Rows.cons (HR100.out.below hb104) hf103.row)
    clear HR100
    clear hf103 hb104
    go_wp2_with fail
    refine (HcsCore.out aw cw w25 (HR106.out.get aw lw (by simp))).mono ?_
    rintro e w26 ⟨a107, c108, rfl, hc108, _, hf109, hb110⟩
    have hB111 : Below w.heap.size w w26 := hB105.trans (hb110.mono hB105.size)
    have HR112 := Lib.hid (Rows.cons (HR106.out.below hb110) hf109.row)
    clear HR106
    clear hf109 hb110
    go_wp2_with fail
    refine (sameInts_eq a101 a107 c102 c108 Cw w26 (HR112.out.get a101 Cw (by simp)) (HR112.out.get a107 Cw (by simp)) (Nat.le_trans HlCw.out (by decide))).mono ?_
    rintro e w27 ⟨rfl, hb113⟩
    have hB114 : Below w.heap.size w w27 := hB111.trans (hb113.mono hB111.size)
    have HR115 := Lib.hid (HR112.out.below hb113)
    clear HR112
    clear hb113
    go_wp2_with fail
    refine (HciSums.out aw cw w27 (HR115.out.get aw lw (by simp))).mono ?_
    rintro e w28 ⟨a116, c117, rfl, hc117, _, hf118, hb119⟩
    have hB120 : Below w.heap.size w w28 := hB114.trans (hb119.mono hB114.size)
    have HR121 := Lib.hid (Rows.cons (HR115.out.below hb119) hf118.row)
    clear HR115
    clear hf118 hb119
    go_wp2_with fail
    refine (HcsSums.out aw cw w28 (HR121.out.get aw lw (by simp))).mono ?_
    rintro e w29 ⟨a122, c123, rfl, hc123, _, hf124, hb125⟩
    have hB126 : Below w.heap.size w w29 := hB120.trans (hb125.mono hB120.size)
    have HR127 := Lib.hid (Rows.cons (HR121.out.below hb125) hf124.row)
    clear HR121
    clear hf124 hb125
    go_wp2_with fail
    refine (sameInts_eq a116 a122 c117 c123 Sw w29 (HR127.out.get a116 Sw (by simp)) (HR127.out.get a122 Sw (by simp)) (Nat.le_trans HlSw.out (by decide))).mono ?_
    rintro e w30 ⟨rfl, hb128⟩
    have hB129 : Below w.heap.size w w30 := hB126.trans (hb128.mono hB126.size)
    have HR130 := Lib.hid (HR127.out.below hb128)
    clear HR127
    clear hb128
    go_wp2_with fail
    refine (HciText.out aw cw w30 (HR130.out.get aw lw (by simp))).mono ?_
    rintro e w31 ⟨rfl, hb131⟩
    have hB132 : Below w.heap.size w w31 := hB129.trans (hb131.mono hB129.size)
    have HR133 := Lib.hid (HR130.out.below hb131)
    clear HR130
    clear hb131
    go_wp2_with fail
    refine (HcText.out w31).mono ?_
    rintro e w32 ⟨a134, c135, rfl, hc135, _, hf136, hb137⟩
    have hB138 : Below w.heap.size w w32 := hB132.trans (hb137.mono hB132.size)
    have HR139 := Lib.hid (Rows.cons (HR133.out.below hb137) hf136.row)
    clear HR133
    clear hf136 hb137
    go_wp2_with fail
    refine (HcsText.out aw cw w32 (HR139.out.get aw lw (by simp))).mono ?_
    rintro e w33 ⟨rfl, hb140⟩
    have hB141 : Below w.heap.size w w33 := hB138.trans (hb140.mono hB138.size)
    have HR142 := Lib.hid (HR139.out.below hb140)
    clear HR139
    clear hb140
    go_wp2_with fail
    refine (HcsIsWord.out aw cw w33 (HR142.out.get aw lw (by simp))).mono ?_
    rintro e w34 ⟨rfl, hb143⟩
    have hB144 : Below w.heap.size w w34 := hB141.trans (hb143.mono hB141.size)
    have HR145 := Lib.hid (HR142.out.below hb143)
    clear HR142
    clear hb143
    cases BW with
    | false =>
      have hRn := (HfRn.out rfl).symm
      subst hRn
      go_wp2_with fail
      refine (HciReduce.out aw cw w34 (HR145.out.get aw lw (by simp))).mono ?_
      rintro e w35 ⟨a146, c147, rfl, hc147, _, hf148, hb149⟩
      have hB150 : Below w.heap.size w w35 := hB144.trans (hb149.mono hB144.size)
      have HR151 := Lib.hid (Rows.cons (HR145.out.below hb149) hf148.row)
      clear HR145
      clear hf148 hb149
      go_wp2
      go_ret
      exact ⟨rfl, hB150⟩
    | true =>
      have hZe := (HfNot.out rfl).symm; subst hZe
      have hSe := (HfS.out rfl).symm; subst hSe
      have hRe := (HfR.out rfl).symm; subst hRe
      have hIe := (HfI.out rfl).symm; subst hIe
      have hJe := (HfC.out rfl).symm; subst hJe
      have hNe := (HfN.out rfl).symm; subst hNe
      go_wp2_with fail
      refine (sameInts_eq a134 aw c135 cw lw w34 (HR145.out.get a134 lw (by simp)) (HR145.out.get aw lw (by simp)) (Nat.le_trans hlw (by decide))).mono ?_
      rintro e w36 ⟨rfl, hb152⟩
      have hB153 : Below w.heap.size w w36 := hB144.trans (hb152.mono hB144.size)
      have HR154 := Lib.hid (HR145.out.below hb152)
      clear HR145
      clear hb152
      go_wp2_with fail
      refine (HciReduce.out aw cw w36 (HR154.out.get aw lw (by simp))).mono ?_
      rintro e w37 ⟨a155, c156, rfl, hc156, _, hf157, hb158⟩
      have hB159 : Below w.heap.size w w37 := hB153.trans (hb158.mono hB153.size)
      have HR160 := Lib.hid (Rows.cons (HR154.out.below hb158) hf157.row)
      clear HR154
      clear hf157 hb158
      go_wp2_with fail
      refine (HciInverse.out aw cw w37 (HR160.out.get aw lw (by simp))).mono ?_
      rintro e w38 ⟨a161, c162, rfl, hc162, _, hf163, hb164⟩
      have hB165 : Below w.heap.size w w38 := hB159.trans (hb164.mono hB159.size)
      have HR166 := Lib.hid (Rows.cons (HR160.out.below hb164) hf163.row)
      clear HR160
      clear hf163 hb164
      go_wp2_with fail
      refine (HciSums.out aw cw w38 (HR166.out.get aw lw (by simp))).mono ?_
      rintro e w39 ⟨a167, c168, rfl, hc168, _, hf169, hb170⟩
      have hB171 : Below w.heap.size w w39 := hB165.trans (hb170.mono hB165.size)
      have HR172 := Lib.hid (Rows.cons (HR166.out.below hb170) hf169.row)
      clear HR166
      clear hf169 hb170
      go_wp2_with fail
      refine (HcrSums.out a155 c156 w39 (HR172.out.get a155 Rw (by simp))).mono ?_
      rintro e w40 ⟨a173, c174, rfl, hc174, _, hf175, hb176⟩
      have hB177 : Below w.heap.size w w40 := hB171.trans (hb176.mono hB171.size)
      have HR178 := Lib.hid (Rows.cons (HR172.out.below hb176) hf175.row)
      clear HR172
      clear hf175 hb176
      go_wp2_with fail
      refine (sameInts_eq a167 a173 c168 c174 Sw w40 (HR178.out.get a167 Sw (by simp)) (HR178.out.get a173 Sw (by simp)) (Nat.le_trans HlSw.out (by decide))).mono ?_
      rintro e w41 ⟨rfl, hb179⟩
      have hB180 : Below w.heap.size w w41 := hB177.trans (hb179.mono hB177.size)
      have HR181 := Lib.hid (HR178.out.below hb179)
      clear HR178
      clear hb179
      go_wp2_with fail
      refine (HcrRed.out a155 c156 w41 (HR181.out.get a155 Rw (by simp))).mono ?_
      rintro e w42 ⟨a182, c183, rfl, hc183, _, hf184, hb185⟩
      have hB186 : Below w.heap.size w w42 := hB180.trans (hb185.mono hB180.size)
      have HR187 := Lib.hid (Rows.cons (HR181.out.below hb185) hf184.row)
      clear HR181
      clear hf184 hb185
      go_wp2_with fail
      refine (sameInts_eq a182 a155 c183 c156 Rw w42 (HR187.out.get a182 Rw (by simp)) (HR187.out.get a155 Rw (by simp)) (Nat.le_trans HlRw.out (by decide))).mono ?_
      rintro e w43 ⟨rfl, hb188⟩
      have hB189 : Below w.heap.size w w43 := hB186.trans (hb188.mono hB186.size)
      have HR190 := Lib.hid (HR187.out.below hb188)
      clear HR187
      clear hb188
      go_wp2_with fail
      refine (HciInv.out a161 c162 w43 (HR190.out.get a161 Iw (by simp))).mono ?_
      rintro e w44 ⟨a191, c192, rfl, hc192, _, hf193, hb194⟩
      have hB195 : Below w.heap.size w w44 := hB189.trans (hb194.mono hB189.size)
      have HR196 := Lib.hid (Rows.cons (HR190.out.below hb194) hf193.row)
      clear HR190
      clear hf193 hb194
      go_wp2_with fail
      refine (sameInts_eq a191 aw c192 cw lw w44 (HR196.out.get a191 lw (by simp)) (HR196.out.get aw lw (by simp)) (Nat.le_trans hlw (by decide))).mono ?_
      rintro e w45 ⟨rfl, hb197⟩
      have hB198 : Below w.heap.size w w45 := hB195.trans (hb197.mono hB195.size)
      have HR199 := Lib.hid (HR196.out.below hb197)
      clear HR196
      clear hb197
      go_wp2_with fail
      refine (HciCore.out aw cw w45 (HR199.out.get aw lw (by simp))).mono ?_
      rintro e w46 ⟨a200, c201, rfl, hc201, _, hf202, hb203⟩
      have hB204 : Below w.heap.size w w46 := hB198.trans (hb203.mono hB198.size)
      have HR205 := Lib.hid (Rows.cons (HR199.out.below hb203) hf202.row)
      clear HR199
      clear hf202 hb203
      go_wp2_with fail
      refine (HccConj.out aw cw a200 c201 w46 (HR205.out.get aw lw (by simp)) (HR205.out.get a200 Cw (by simp))).mono ?_
      rintro e w47 ⟨rfl, hb206⟩
      have hB207 : Below w.heap.size w w47 := hB204.trans (hb206.mono hB204.size)
      have HR208 := Lib.hid (HR205.out.below hb206)
      clear HR205
      clear hb206
      cases On with
      | false =>
        go_wp2_with fail
        refine (HcwProd.out aw cw a161 c162 w47 (HR208.out.get aw lw (by simp)) (HR208.out.get a161 Iw (by simp))).mono ?_
        rintro e w48 ⟨a209, c210, rfl, hc210, _, hf211, hb212⟩
        have hB213 : Below w.heap.size w w48 := hB207.trans (hb212.mono hB207.size)
        have HR214 := Lib.hid (Rows.cons (HR208.out.below hb212) hf211.row)
        clear HR208
        clear hf211 hb212
        cases Fw with
        | false =>
          go_wp2
          go_ret
          exact ⟨rfl, hB213⟩
        | true =>
          go_wp2
          go_ret
          exact ⟨rfl, hB213⟩
      | true =>
        go_wp2_with fail
        refine (HcuInv.out au cu w47 (HR208.out.get au lu (by simp))).mono ?_
        rintro e w49 ⟨a215, c216, rfl, hc216, _, hf217, hb218⟩
        have hB219 : Below w.heap.size w w49 := hB207.trans (hb218.mono hB207.size)
        have HR220 := Lib.hid (Rows.cons (HR208.out.below hb218) hf217.row)
        clear HR208
        clear hf217 hb218
        go_wp2_with fail
        refine (HcpProd.out a26 c27 a215 c216 w49 (HR220.out.get a26 Pr (by simp)) (HR220.out.get a215 Iu (by simp))).mono ?_
        rintro e w50 ⟨a221, c222, rfl, hc222, _, hf223, hb224⟩
        have hB225 : Below w.heap.size w w50 := hB219.trans (hb224.mono hB219.size)
        have HR226 := Lib.hid (Rows.cons (HR220.out.below hb224) hf223.row)
        clear HR220
        clear hf223 hb224
        cases Fn with
        | false =>
          go_wp2_with fail
          refine (HciConj.out av cv au cu w50 (HR226.out.get av lv (by simp)) (HR226.out.get au lu (by simp))).mono ?_
          rintro e w51 ⟨rfl, hb227⟩
          have hB228 : Below w.heap.size w w51 := hB225.trans (hb227.mono hB225.size)
          have HR229 := Lib.hid (HR226.out.below hb227)
          clear HR226
          clear hb227
          cases Cj with
          | false =>
            go_wp2_with fail
            refine (HcwProd.out aw cw a161 c162 w51 (HR229.out.get aw lw (by simp)) (HR229.out.get a161 Iw (by simp))).mono ?_
            rintro e w52 ⟨a230, c231, rfl, hc231, _, hf232, hb233⟩
            have hB234 : Below w.heap.size w w52 := hB228.trans (hb233.mono hB228.size)
            have HR235 := Lib.hid (Rows.cons (HR229.out.below hb233) hf232.row)
            clear HR229
            clear hf232 hb233
            cases Fw with
            | false =>
              go_wp2
              go_ret
              exact ⟨rfl, hB234⟩
            | true =>
              go_wp2
              go_ret
              exact ⟨rfl, hB234⟩
          | true =>
            have hJe := (HfJ.out (by trivial)).symm; subst hJe
            go_wp2_with fail
            refine (HcvSums.out av cv w51 (HR229.out.get av lv (by simp))).mono ?_
            rintro e w53 ⟨a236, c237, rfl, hc237, _, hf238, hb239⟩
            have hB240 : Below w.heap.size w w53 := hB228.trans (hb239.mono hB228.size)
            have HR241 := Lib.hid (Rows.cons (HR229.out.below hb239) hf238.row)
            clear HR229
            clear hf238 hb239
            go_wp2_with fail
            refine (HcuSums.out au cu w53 (HR241.out.get au lu (by simp))).mono ?_
            rintro e w54 ⟨a242, c243, rfl, hc243, _, hf244, hb245⟩
            have hB246 : Below w.heap.size w w54 := hB240.trans (hb245.mono hB240.size)
            have HR247 := Lib.hid (Rows.cons (HR241.out.below hb245) hf244.row)
            clear HR241
            clear hf244 hb245
            go_wp2_with fail
            refine (sameInts_eq a236 a242 c237 c243 Sv w54 (HR247.out.get a236 Sv (by simp)) (HR247.out.get a242 Sv (by simp)) (Nat.le_trans HlSv.out (by decide))).mono ?_
            rintro e w55 ⟨rfl, hb248⟩
            have hB249 : Below w.heap.size w w55 := hB246.trans (hb248.mono hB246.size)
            have HR250 := Lib.hid (HR247.out.below hb248)
            clear HR247
            clear hb248
            go_wp2_with fail
            refine (HcwProd.out aw cw a161 c162 w55 (HR250.out.get aw lw (by simp)) (HR250.out.get a161 Iw (by simp))).mono ?_
            rintro e w56 ⟨a251, c252, rfl, hc252, _, hf253, hb254⟩
            have hB255 : Below w.heap.size w w56 := hB249.trans (hb254.mono hB249.size)
            have HR256 := Lib.hid (Rows.cons (HR250.out.below hb254) hf253.row)
            clear HR250
            clear hf253 hb254
            cases Fw with
            | false =>
              go_wp2
              go_ret
              exact ⟨rfl, hB255⟩
            | true =>
              go_wp2
              go_ret
              exact ⟨rfl, hB255⟩
        | true =>
          have hQe := (HgQ.out (by trivial) (by trivial)).symm; subst hQe
          go_wp2_with fail
          refine (HcvRed.out av cv w50 (HR226.out.get av lv (by simp))).mono ?_
          rintro e w57 ⟨a257, c258, rfl, hc258, _, hf259, hb260⟩
          have hB261 : Below w.heap.size w w57 := hB225.trans (hb260.mono hB225.size)
          have HR262 := Lib.hid (Rows.cons (HR226.out.below hb260) hf259.row)
          clear HR226
          clear hf259 hb260
          go_wp2_with fail
          refine (sameInts_eq a221 a257 c222 c258 Rv w57 (HR262.out.get a221 Rv (by simp)) (HR262.out.get a257 Rv (by simp)) (Nat.le_trans HlRv.out (by decide))).mono ?_
          rintro e w58 ⟨rfl, hb263⟩
          have hB264 : Below w.heap.size w w58 := hB261.trans (hb263.mono hB261.size)
          have HR265 := Lib.hid (HR262.out.below hb263)
          clear HR262
          clear hb263
          go_wp2_with fail
          refine (HciConj.out av cv au cu w58 (HR265.out.get av lv (by simp)) (HR265.out.get au lu (by simp))).mono ?_
          rintro e w59 ⟨rfl, hb266⟩
          have hB267 : Below w.heap.size w w59 := hB264.trans (hb266.mono hB264.size)
          have HR268 := Lib.hid (HR265.out.below hb266)
          clear HR265
          clear hb266
          cases Cj with
          | false =>
            go_wp2_with fail
            refine (HcwProd.out aw cw a161 c162 w59 (HR268.out.get aw lw (by simp)) (HR268.out.get a161 Iw (by simp))).mono ?_
            rintro e w60 ⟨a269, c270, rfl, hc270, _, hf271, hb272⟩
            have hB273 : Below w.heap.size w w60 := hB267.trans (hb272.mono hB267.size)
            have HR274 := Lib.hid (Rows.cons (HR268.out.below hb272) hf271.row)
            clear HR268
            clear hf271 hb272
            cases Fw with
            | false =>
              go_wp2
              go_ret
              exact ⟨rfl, hB273⟩
            | true =>
              go_wp2
              go_ret
              exact ⟨rfl, hB273⟩
          | true =>
            have hJe := (HfJ.out (by trivial)).symm; subst hJe
            go_wp2_with fail
            refine (HcvSums.out av cv w59 (HR268.out.get av lv (by simp))).mono ?_
            rintro e w61 ⟨a275, c276, rfl, hc276, _, hf277, hb278⟩
            have hB279 : Below w.heap.size w w61 := hB267.trans (hb278.mono hB267.size)
            have HR280 := Lib.hid (Rows.cons (HR268.out.below hb278) hf277.row)
            clear HR268
            clear hf277 hb278
            go_wp2_with fail
            refine (HcuSums.out au cu w61 (HR280.out.get au lu (by simp))).mono ?_
            rintro e w62 ⟨a281, c282, rfl, hc282, _, hf283, hb284⟩
            have hB285 : Below w.heap.size w w62 := hB279.trans (hb284.mono hB279.size)
            have HR286 := Lib.hid (Rows.cons (HR280.out.below hb284) hf283.row)
            clear HR280
            clear hf283 hb284
            go_wp2_with fail
            refine (sameInts_eq a275 a281 c276 c282 Sv w62 (HR286.out.get a275 Sv (by simp)) (HR286.out.get a281 Sv (by simp)) (Nat.le_trans HlSv.out (by decide))).mono ?_
            rintro e w63 ⟨rfl, hb287⟩
            have hB288 : Below w.heap.size w w63 := hB285.trans (hb287.mono hB285.size)
            have HR289 := Lib.hid (HR286.out.below hb287)
            clear HR286
            clear hb287
            go_wp2_with fail
            refine (HcwProd.out aw cw a161 c162 w63 (HR289.out.get aw lw (by simp)) (HR289.out.get a161 Iw (by simp))).mono ?_
            rintro e w64 ⟨a290, c291, rfl, hc291, _, hf292, hb293⟩
            have hB294 : Below w.heap.size w w64 := hB288.trans (hb293.mono hB288.size)
            have HR295 := Lib.hid (Rows.cons (HR289.out.below hb293) hf292.row)
            clear HR289
            clear hf292 hb293
            cases Fw with
            | false =>
              go_wp2
              go_ret
              exact ⟨rfl, hB294⟩
            | true =>
              go_wp2
              go_ret
              exact ⟨rfl, hB294⟩

set_option maxRecDepth 100000 in
theorem contract (H : Type) (enc : TypeId × Value → H) (W : World) (base : Nat) (args : Array Value) (ds gs : List (DataW H)) (before : List MemPlace)
    (hval : ∀ (j : Nat) t v, Try.f3.params[j]? = some t → args[j]? = some v → Value.okWide Try.prog W .any base t v)
    (hW : DataW.Whole enc Try.prog Try.f3.params.toList Rows.fnWordsSpec.vars false W args.toList ds gs before) :
    Calls Try.prog 3 args W fun e W' => ∃ v, e = .returned v ∧ Rows.fnWordsSpec.post enc Try.prog Try.f3 false true false false W args v W' := by
  have hW' := hW
  obtain ⟨p, q, hA0, hV, rfl, hfz, hnd⟩ := hW
  have hA : DataW.TrodAll enc Try.prog W 0 (fun _ => true) true Try.f3.params.toList args.toList ds p := hA0
  rw [Try.params3] at hA hval
  obtain ⟨v0, vs0, d0, ds0, p0, q0, hargs, rfl, rfl, h0, r0⟩ := trodAll_cons hA
  obtain ⟨rfl, rfl, rfl⟩ := trodAll_nil r0
  obtain rfl : args = #[v0] := by cases args; simp_all
  obtain ⟨rfl, rfl⟩ := trodVars_none hV
  have k0 := h0
  obtain ⟨acode, ccode, lcode, rfl, wcode⟩ := Read.bytes_of (hval 0 22 v0 rfl rfl) h0
  clear hA0
  simp only [List.append_nil] at hW'
  refine (law acode ccode lcode W wcode).mono fun e W' ⟨he, hg⟩ => ?_
  subst he
  exact ⟨_, rfl, post_of_below (pv := []) hW' (fun _ _ _ => trodAll_cons_mk (shut_bool Try.underlying4 _) trodAll_mk0)
    (fun sp hs => trodAll_cons_mk (trod_keeps (t := 22) (by kernel_rfl) (by kernel_rfl) (by kernel_rfl) k0 hg (fun x hx => hW'.lt x (by simp_all)) (fun x hx => hs x (by simp_all))) (trodAll_mk0))
    (fun _ _ => rfl) (by simp) hg (ok_one (by kernel_rfl) rfl (okWide_bool_mk Try.underlying4 _))⟩

theorem reads (os : Os) {H : Type} (enc : TypeId × Value → H) : ∃ places, DataW.whole enc Try.prog ((World.holding Try.prog os ⟨#[], #[], []⟩).forCall (fun _ _ => 0) ⟨#[], #[.slice none 0 0], []⟩).memory Try.f3.params.toList Rows.fnWordsSpec.vars false (#[.slice none 0 0] : Array Value).toList 8 = some ([.nil], [], places) :=
  ⟨[], by kernel_rfl⟩

set_option maxRecDepth 100000 in
theorem lifted (os : Os) (started : os.Started) (H : Type) (enc : TypeId × Value → H) (F : Stop.Interp) :
    ReturnsInHanded {} Try.checked os 3 .any ((OpenSpec.ofChange Rows.fnWordsSpec).preRow enc Try.prog Try.f3 Rows.fnWordsRow.domain false Rows.fnWordsRow.laid) (((OpenSpec.ofChange Rows.fnWordsSpec).at F).post enc Try.prog Try.f3 false true false false) := by
  obtain ⟨places, hx⟩ := reads os enc
  refine returnsInHanded_of_row (C := Try.checked) (s := OpenSpec.ofChange Rows.fnWordsSpec) Low.own started (by kernel_rfl) Try.func3
    (witness_row_at (enc := enc) (C := Try.checked) false (World.holding Try.prog os ⟨#[], #[], []⟩) #[.slice none 0 0] rfl (by kernel_rfl) (by kernel_rfl) (by kernel_rfl)
      (OpenSpec.preRow_of_cond 8 hx (by kernel_rfl) (fun k hk => by cases hk) (by kernel_rfl) (laidMet_nil _ _))) ?_
  intro W base args ds gs before hval hW _ _ _ hL hShaped _
  exact contract H enc W base args ds gs before hval hW 

theorem said : Rows.FnWordsSaid :=
  OpenClaim.holds_of_cond 3 Try.f3 rfl rfl rfl rfl rfl rfl rfl ⟨rfl, rfl, rfl, rfl, rfl⟩ rfl rfl rfl rfl rfl (by kernel_rfl) Try.func3 (by kernel_rfl)
    (of_decide_eq_true (by kernel_rfl)) (by unfold Func.isWrapper; first | (rw [if_pos (by decide +kernel)]; kernel_rfl) | (rw [if_neg (by decide +kernel)]; exact ⟨rfl, rfl⟩))
    (fun os started H enc _ F => by rw [OpenClaim.pre_eq_preRow]; exact lifted os started H enc F)
end Go.Proofs.Ytapclpfhpmmbjaa.fnWords
