/-
  For every draw: the program's slopes are the model's, a slope's text is read back, slopes cross one another as often in both orders and themselves never, a sum crosses both once, a twist keeps how often slopes cross, and a slope's word has its letters.
-/
import Derived.Test.YtehibigjdbpikaaGreatDoorCards
import Derived.Test.YtehibigjdbpikaaGreatDoorTie
import Derived.Test.YtehibigjdbpikaaGreatDoorBase
import Derived.Test.YtehibigjdbpikaaGreatDoorLow
import Derived.Test.YtehibigjdbpikaaGreatDoorDoorLow
import Derived.Test.YtehibigjdbpikaaGreatDoorSlice
import Derived.Test.YtehibigjdbpikaaGreatDoorIntRow
import Derived.Test.YtehibigjdbpikaaGreatDoorInts
import Derived.Test.YtehibigjdbpikaaGreatDoorOwn
import Derived.Test.YtehibigjdbpikaaGreatDoorDraw
import Derived.Test.YtehibigjdbpikaaGreatDoorWord
import Derived.Test.YtehibigjdbpikaaGreatDoorIsWord
import Derived.Test.YtehibigjdbpikaaGreatDoorReduce
import Derived.Test.YtehibigjdbpikaaGreatDoorReduceSpec
import Derived.Test.YtehibigjdbpikaaGreatDoorAppend
import Derived.Test.YtehibigjdbpikaaGreatDoorCore
import Derived.Test.YtehibigjdbpikaaGreatDoorSums
import Derived.Test.YtehibigjdbpikaaGreatDoorStrs
import Derived.Test.YtehibigjdbpikaaGreatDoorSplit
import Derived.Test.YtehibigjdbpikaaGreatDoorFmt
import Derived.Test.YtehibigjdbpikaaGreatDoorNum
import Derived.Test.YtehibigjdbpikaaGreatDoorRead
import Derived.Test.YtehibigjdbpikaaGreatDoorParse
import Derived.Test.YtehibigjdbpikaaGreatDoorShelfCut
import Derived.Test.YtehibigjdbpikaaGreatDoorTurned
import Derived.Test.YtehibigjdbpikaaGreatDoorTw
import Derived.Test.YtehibigjdbpikaaGreatDoorTwErr
import Derived.Test.YtehibigjdbpikaaGreatDoorSl
import Derived.Test.YtehibigjdbpikaaGreatDoorSlT
import Derived.Test.YtehibigjdbpikaaGreatDoorSlK
import Derived.Test.YtehibigjdbpikaaGreatDoorSlA
import Derived.Test.YtehibigjdbpikaaGreatDoorSlB
import Derived.Test.YtehibigjdbpikaaGreatDoorSlS
import Derived.Test.YtehibigjdbpikaaGreatDoorSlTx
import Derived.Test.YtehibigjdbpikaaGreatDoorSlPs
import Derived.Test.YtehibigjdbpikaaGreatDoorHeld
import Derived.Test.YtehibigjdbpikaaGreatDoorRowI
import Derived.Test.YtehibigjdbpikaaGreatDoorSlW
import Derived.Test.YtehibigjdbpikaaGreatDoorDrawSl
import Derived.Test.YtehibigjdbpikaaGreatDoorDrawSl2
import Derived.Test.YtehibigjdbpikaaGreatDoorDrawSl3
import Derived.Test.YtehibigjdbpikaaGreatDoorDrawSl4
import Derived.Test.YtehibigjdbpikaaGreatDoorReadBytes
import Derived.Test.YtehibigjdbpikaaGreatDoorSame
import Derived.Deep.DeepWitnessRowRef
import Derived.OpenShut
import Derived.Deep.DeepHandedRow
import Derived.LaidMore
import Derived.Stop.LaidErr
import Derived.Deep.RegionHeld3
import Derived.Deep.RegionWith
import Derived.Deep.CutRange
namespace Go.Proofs.YtehibigjdbpikaaGreatDoor.fnSlopes
open Go.ChangeShapes Go.WideShapes Go.ChangeAt Go.RowKit Go.Sort
open Go.ChangeMaps (open_string)
set_option linter.unusedVariables false
set_option linter.unusedSimpArgs false

def Done (w : World) (e : Ending) (w' : World) : Prop := e = .returned (.bool true) ∧ Below w.heap.size w w'
/-- Slopes in blocks of their own. -/
def Bs (w : World) (l : List (Nat × Int × Int)) : Prop := ∀ b ∈ l, Blk w b.1 44 #[.int .i64 b.2.1, .int .i64 b.2.2]
section
variable {w w' : World} {l : List (Nat × Int × Int)}
theorem Bs.nil : Bs w [] := fun _ h => by cases h
theorem Bs.below (h : Bs w l) (hb : Below w.heap.size w w') : Bs w' l := fun b hm => (h b hm).below hb (h b hm).lt
theorem Bs.push (h : Bs w l) (x y : Int) : Bs (w.alloc (.cells #[.int .i64 x, .int .i64 y] 44)) ((w.heap.size, x, y) :: l) := fun b hm => by
  rcases List.mem_cons.1 hm with e | hm
  · subst e; exact Blk.new w _ _
  · exact (h b hm).alloc _
theorem Bs.push2 (h : Bs w l) (x y p q : Int) : Bs ((w.alloc (.cells #[.int .i64 x, .int .i64 y] 44)).alloc (.cells #[.int .i64 p, .int .i64 q] 44)) ((w.heap.size + 1, p, q) :: (w.heap.size, x, y) :: l) := by
  have := (h.push x y).push p q
  rwa [show (w.alloc (.cells #[.int .i64 x, .int .i64 y] 44)).heap.size = w.heap.size + 1 by simp] at this
theorem Bs.tail {b : Nat × Int × Int} (h : Bs w (b :: l)) : Bs w l := fun x hx => h x (List.mem_cons_of_mem _ hx)
theorem Bs.get (h : Bs w l) {i N : Nat} {x y : Int} (hi : l[i]? = some (N, x, y)) : Blk w N 44 #[.int .i64 x, .int .i64 y] := h _ (List.mem_of_getElem? hi)
theorem Rows.push {rs : List (Option Addr × List Int)} (h : Rows w rs) (x y : Int) : Rows (w.alloc (.cells #[.int .i64 x, .int .i64 y] 44)) rs := h.below ((Below.refl _ _).alloc (Nat.le_refl _) _)
theorem Rows.push2 {rs : List (Option Addr × List Int)} (h : Rows w rs) (x y p q : Int) : Rows ((w.alloc (.cells #[.int .i64 x, .int .i64 y] 44)).alloc (.cells #[.int .i64 p, .int .i64 q] 44)) rs := Rows.push (Rows.push h x y) p q
theorem below_push {v : World} (h : Below v.heap.size v w) (x y : Int) : Below v.heap.size v (w.alloc (.cells #[.int .i64 x, .int .i64 y] 44)) := h.alloc h.size _
theorem below_push2 {v : World} (h : Below v.heap.size v w) (x y p q : Int) : Below v.heap.size v ((w.alloc (.cells #[.int .i64 x, .int .i64 y] 44)).alloc (.cells #[.int .i64 p, .int .i64 q] 44)) := below_push (below_push h x y) p q
end
/-- '!=' of a slope with itself. -/
theorem slope_neq (x y : Int) (w : World) : (binOp .neq 44 (.agg #[.int .i64 x, .int .i64 y]) (.agg #[.int .i64 x, .int .i64 y])).run Tryz.prog w = .ok (.bool false) w := by
  have u3 := Tryz.underlying3
  have hS : Tryz.prog.underlying 44 = some (.struct (Tryz.prog.fieldsOf 44)) := by kernel_rfl
  have hp : Tryz.prog.stoodInHeld 44 = false := by kernel_rfl
  rw [run_neq_struct, show (10000 : Nat) = 9999 + 1 from rfl, run_equalIn_agg w 9999 44 _ _ hS hp]
  simp only [Program.fieldsOf, Tryz.underlying44]
  go_simp
theorem text_data (x y : Int) (h : Sl.Is x y) : (Sl.text x y).data.toList = Lib.itoa x ++ 47 :: Lib.itoa y := by
  unfold Sl.text
  rw [if_pos h]
  simp [ByteArray.data_append]
theorem text_parse (x y : Int) : Sl.parse (Sl.text x y).data.toList = if Sl.Is x y then ((x, y), true) else ((0, 0), false) := by
  by_cases h : Sl.Is x y
  · rw [if_pos h, text_data x y h]
    have hx : (10 : Nat) ^ (11 + 1) = 1000000000000 := by decide
    have h1 := Num.rd_itoa 11 x (by rw [hx]; have := h.abs; omega)
    have h2 := Num.rd_itoa 11 y (by rw [hx]; have := h.abs; omega)
    unfold Sl.parse
    rw [Split.parts_hit _ _ _ (Sl.itoa_free x), Split.parts_none _ _ (Sl.itoa_free y)]
    show Sl.both (Lib.itoa x) (Lib.itoa y) = _
    unfold Sl.both
    rw [h1, h2]
    simp [h]
  · rw [if_neg h, show Sl.text x y = ⟨#[]⟩ from if_neg h]
    rfl
theorem text_ok (x y : Int) : decide (Sl.ParseOk (Sl.text x y)) = decide (Sl.Is x y) := by
  rw [Sl.ok_dec, text_parse]
  by_cases h : Sl.Is x y
  · rw [if_pos h, decide_eq_true h]
  · rw [if_neg h, decide_eq_false h]
theorem text_back {x y : Int} (h : Sl.Is x y) : Sl.parsed (Sl.text x y) = (x, y) := by
  unfold Sl.parsed; rw [text_parse, if_pos h]
theorem text_len (x y : Int) : (Sl.text x y).size ≤ 1048576 := by
  by_cases h : Sl.Is x y
  · have := Sl.text_small x y ⟨by have := h.abs; omega, by have := h.abs; omega⟩; omega
  · rw [show Sl.text x y = ⟨#[]⟩ from if_neg h]; exact Nat.zero_le _
theorem word_row {x y : Int} (h : Sl.WordOk x y) : ∃ r, Word.sumsOf (Sl.word x y) = y :: x :: r ∧ r.length = 6 := by
  have hs := Sl.word_sums h
  have hl : (Word.sumsOf (Sl.word x y)).length = 8 := by unfold Word.sumsOf; rw [if_pos (Sl.word_w h)]; exact Word.sums_len _
  match hm : Word.sumsOf (Sl.word x y), hl with
  | u :: v :: r, hl =>
    rw [hm] at hs
    have e1 : u = y := hs.1
    have e2 : v = x := hs.2
    exact ⟨r, by rw [e1, e2], by simpa using hl⟩
set_option maxRecDepth 10000 in
theorem magnitude (x : Int) (w : World) (h0 : -1001 ≤ x) (h1 : x ≤ 1001) : Calls Tryz.prog 59 #[.int .i64 x] w fun e w' => e = .returned (.int .i64 (x.natAbs : Int)) ∧ w' = w := by
  by_cases h : x < 0
  · have e1 : IntKind.i64.wrap (-x) = -x := wrap_small (by omega) (by omega)
    have hv : (x.natAbs : Int) = -x := by omega
    rw [hv]
    go_enter Tryz.func59, Tryz.ntmps59
    go_wp2
    go_ret
    exact ⟨rfl, rfl⟩
  · have hv : (x.natAbs : Int) = x := by omega
    rw [hv]
    go_enter Tryz.func59, Tryz.ntmps59
    go_wp2
    go_ret
    exact ⟨rfl, rfl⟩
/-- A row is given, and whether. -/
def Word2 (R : List Int) (n : Nat) (b : Bool) (W : World) (e : Ending) (w' : World) : Prop := ∃ a c, e = .returned (.tuple #[.slice a n c, .bool b]) ∧ RowAt w' a (intCells R) ∧ Below W.heap.size W w'
theorem word2 {R : List Int} {n : Nat} {b : Bool} {W : World} {e : Ending} {w' : World} (hn : R.length = n) (h : Gives2 W R b e w') : Word2 R n b W e w' := by
  obtain ⟨a, c, he, _, _, hf, hb⟩ := h
  exact ⟨a, c, by rw [he, hn], hf.row, hb⟩

set_option maxRecDepth 100000 in
set_option maxHeartbeats 16000000 in
theorem law (a : Option Addr) (c : Nat) (l : List Int) (w : World) (hh : RowAt w a (byteCells l) ∧ l.length ≤ maxLen ∧ ∀ x ∈ l, 0 ≤ x ∧ x ≤ 255) (hE : Errs w) (hLd : Laid w) (hsh : w.ShapedOpen Tryz.prog) :
    Calls Tryz.prog 4 #[.slice a l.length c] w (Done w) := by
  obtain ⟨ha, hl, hb⟩ := hh
  unfold maxLen at hl
  have Hb := Lib.hid hb; have Ha := Lib.hid ha; have HE := Lib.hid hE; have HLd := Lib.hid hLd; have Hsh := Lib.hid hsh
  clear hb ha hE hLd hsh
  by_cases hbig : 1048576 < l.length
  · have hd : decide (1048576 < l.length) = true := by simpa using hbig
    go_enter Tryz.func4, Tryz.ntmps4
    go_wp2_with fail
    refine (big a l.length c w (by omega)).mono ?_
    rintro e w1 ⟨rfl, rfl⟩
    rw [hd]
    go_wp2
    go_ret
    exact ⟨rfl, Below.refl _ _⟩
  have hd : decide (1048576 < l.length) = false := by simpa using hbig
  have Hsz := Lib.hid (show l.length ≤ 1048576 by omega)
  clear hbig hl
  have HneS := slope_neq
  have HB0 := Lib.hid (Bs.nil (w := w)); have HR0 := Lib.hid (Rows.nil w); have HL0 := Lib.hid (Below.refl w.heap.size w)
  go_enter Tryz.func4, Tryz.ntmps4
  go_wp2_with fail
  refine (big a l.length c w (by have := Hsz.out; omega)).mono ?_
  rintro e w1 ⟨rfl, hw⟩
  subst hw
  rw [hd]
  go_wp2_with fail
  refine (drawCross a c l _ (Ha.out.below HL0.out) Hb.out Hsz.out).mono ?_
  rintro e w1 ⟨a1, a2, b1, b2, rfl, hb2⟩
  have HB3 := Lib.hid (Bs.push2 (HB0.out.below hb2) a1 a2 b1 b2); have HR4 := Lib.hid (Rows.push2 (HR0.out.below hb2) a1 a2 b1 b2); have HL5 := Lib.hid (below_push2 (HL0.out.trans (hb2.mono HL0.out.size)) a1 a2 b1 b2)
  clear hb2 HB0 HR0 HL0
  have icn := fun W (hb : Below w.heap.size w W) => impl_CrossNumber a1 a2 b1 b2 W (HE.out.keeps hb)
  have scn := fun W (hb : Below w.heap.size w W) => spec_CrossNumber a1 a2 b1 b2 W
  obtain ⟨N, hN⟩ : ∃ s, Sl.crossN a1 a2 b1 b2 = s := ⟨_, rfl⟩
  simp only [hN] at icn scn
  have ICN := Lib.hid icn
  have SCN := Lib.hid scn
  have HN := Lib.hid hN; clear hN icn scn
  obtain ⟨q6, q7, q8, q9⟩ := (HB3.out.get (i := 1) (N := w1.heap.size) (x := a1) (y := a2) rfl).four
  obtain ⟨q10, q11, q12, q13⟩ := (HB3.out.get (i := 0) (N := w1.heap.size + 1) (x := b1) (y := b2) rfl).four
  go_wp2_with fail
  refine (ICN.out _ HL5.out).mono ?_
  rintro e w14 ⟨rfl, hb15⟩
  have HB16 := Lib.hid (HB3.out.below hb15); have HR17 := Lib.hid (HR4.out.below hb15); have HL18 := Lib.hid (HL5.out.trans (hb15.mono HL5.out.size))
  clear hb15 HB3 HR4 HL5
  clear q6 q7 q8 q9 q10 q11 q12 q13
  go_wp2_with fail
  refine (drawOf a c l _ (Ha.out.below HL18.out) Hb.out Hsz.out).mono ?_
  rintro e w19 ⟨P, Q, rfl, hb20⟩
  have HB21 := Lib.hid (HB16.out.below hb20); have HR22 := Lib.hid (HR17.out.below hb20); have HL23 := Lib.hid (HL18.out.trans (hb20.mono HL18.out.size))
  clear hb20 HB16 HR17 HL18
  have iof := fun W (hb : Below w.heap.size w W) => impl_SlopeOf P Q W (HE.out.keeps hb)
  have sof := fun W (hb : Below w.heap.size w W) => spec_SlopeOf P Q W
  obtain ⟨s0, hs⟩ : ∃ s, Sl.of P Q = s := ⟨_, rfl⟩
  obtain ⟨okb, hokb⟩ : ∃ b, decide (Sl.OfOk P Q) = b := ⟨_, rfl⟩
  simp only [hs, hokb] at iof sof
  obtain ⟨s1, s2⟩ := s0
  have IOF := Lib.hid iof
  have SOF := Lib.hid sof
  have Hs := Lib.hid hs; have Hokb := Lib.hid hokb
  clear hs hokb iof sof
  go_wp2_with fail
  refine (IOF.out _ HL23.out).mono ?_
  rintro e w24 ⟨rfl, hb25⟩
  have HB26 := Lib.hid (Bs.push (HB21.out.below hb25) s1 s2); have HR27 := Lib.hid (Rows.push (HR22.out.below hb25) s1 s2); have HL28 := Lib.hid (below_push (HL23.out.trans (hb25.mono HL23.out.size)) s1 s2)
  clear hb25 HB21 HR22 HL23
  as_aux_lemma =>
  go_wp2_with fail
  refine (SOF.out _ HL28.out).mono ?_
  rintro e w29 ⟨rfl, hb30⟩
  have HB31 := Lib.hid (Bs.push (HB26.out.below hb30) s1 s2); have HR32 := Lib.hid (Rows.push (HR27.out.below hb30) s1 s2); have HL33 := Lib.hid (below_push (HL28.out.trans (hb30.mono HL28.out.size)) s1 s2)
  clear hb30 HB26 HR27 HL28
  go_wp2_with fail
  refine (drawText a c l _ (Ha.out.below HL33.out) Hb.out Hsz.out).mono ?_
  rintro e w34 ⟨t, rfl, ht, hb35⟩
  have HB36 := Lib.hid (HB31.out.below hb35); have HR37 := Lib.hid (HR32.out.below hb35); have HL38 := Lib.hid (HL33.out.trans (hb35.mono HL33.out.size))
  clear hb35 HB31 HR32 HL33
  have Ht := Lib.hid (show t.size ≤ 1048576 by omega); clear ht
  have ips := fun W (hb : Below w.heap.size w W) => impl_ParseSlope t W Ht.out (HE.out.keeps hb) (HLd.out.keeps hb) (shaped_below Hsh.out hb)
  have sps := fun W (hb : Below w.heap.size w W) => spec_ParseSlope t W Ht.out
  obtain ⟨x0, hx⟩ : ∃ s, Sl.parsed t = s := ⟨_, rfl⟩
  obtain ⟨one, hone⟩ : ∃ b, decide (Sl.ParseOk t) = b := ⟨_, rfl⟩
  simp only [hx, hone] at ips sps
  obtain ⟨x1, x2⟩ := x0
  have IPS := Lib.hid ips
  have SPS := Lib.hid sps
  have Hx := Lib.hid hx; have Hone := Lib.hid hone
  clear hx hone ips sps
  go_wp2_with fail
  refine (IPS.out _ HL38.out).mono ?_
  rintro e w39 ⟨rfl, hb40⟩
  have HB41 := Lib.hid (Bs.push (HB36.out.below hb40) x1 x2); have HR42 := Lib.hid (Rows.push (HR37.out.below hb40) x1 x2); have HL43 := Lib.hid (below_push (HL38.out.trans (hb40.mono HL38.out.size)) x1 x2)
  clear hb40 HB36 HR37 HL38
  go_wp2_with fail
  refine (SPS.out _ HL43.out).mono ?_
  rintro e w44 ⟨rfl, hb45⟩
  have HB46 := Lib.hid (Bs.push (HB41.out.below hb45) x1 x2); have HR47 := Lib.hid (Rows.push (HR42.out.below hb45) x1 x2); have HL48 := Lib.hid (below_push (HL43.out.trans (hb45.mono HL43.out.size)) x1 x2)
  clear hb45 HB41 HR42 HL43
  go_wp2_with fail
  refine (drawTwist a c l _ (Ha.out.below HL48.out) Hb.out Hsz.out).mono ?_
  rintro e w49 ⟨c1, c2, d1, d2, k, rfl, hk, hb50⟩
  have HB51 := Lib.hid (Bs.push2 (HB46.out.below hb50) c1 c2 d1 d2); have HR52 := Lib.hid (Rows.push2 (HR47.out.below hb50) c1 c2 d1 d2); have HL53 := Lib.hid (below_push2 (HL48.out.trans (hb50.mono HL48.out.size)) c1 c2 d1 d2)
  clear hb50 HB46 HR47 HL48
  have Hkk := Lib.hid hk; clear hk
  have itw := fun W (hb : Below w.heap.size w W) => impl_TwistSlope c1 c2 d1 d2 k W (HE.out.keeps hb)
  have stw := fun W (hb : Below w.heap.size w W) => spec_TwistSlope c1 c2 d1 d2 k W
  obtain ⟨u0, hu⟩ : ∃ s, Sl.twist c1 c2 d1 d2 k = s := ⟨_, rfl⟩
  obtain ⟨three, hthree⟩ : ∃ b, decide (Sl.twOk c1 c2 d1 d2 k) = b := ⟨_, rfl⟩
  simp only [hu, hthree] at itw stw
  obtain ⟨u1, u2⟩ := u0
  have ITW := Lib.hid itw
  have STW := Lib.hid stw
  have Hu := Lib.hid hu; have Hthree := Lib.hid hthree
  clear hu hthree itw stw
  obtain ⟨q54, q55, q56, q57⟩ := (HB51.out.get (i := 1) (N := w49.heap.size) (x := c1) (y := c2) rfl).four
  obtain ⟨q58, q59, q60, q61⟩ := (HB51.out.get (i := 0) (N := w49.heap.size + 1) (x := d1) (y := d2) rfl).four
  as_aux_lemma =>
  go_wp2_with fail
  refine (ITW.out _ HL53.out).mono ?_
  rintro e w62 ⟨rfl, hb63⟩
  have HB64 := Lib.hid (Bs.push (HB51.out.below hb63) u1 u2); have HR65 := Lib.hid (Rows.push (HR52.out.below hb63) u1 u2); have HL66 := Lib.hid (below_push (HL53.out.trans (hb63.mono HL53.out.size)) u1 u2)
  clear hb63 HB51 HR52 HL53
  clear q54 q55 q56 q57 q58 q59 q60 q61
  obtain ⟨q67, q68, q69, q70⟩ := (HB64.out.get (i := 2) (N := w49.heap.size) (x := c1) (y := c2) rfl).four
  obtain ⟨q71, q72, q73, q74⟩ := (HB64.out.get (i := 1) (N := w49.heap.size + 1) (x := d1) (y := d2) rfl).four
  go_wp2_with fail
  refine (STW.out _ HL66.out).mono ?_
  rintro e w75 ⟨rfl, hb76⟩
  have HB77 := Lib.hid (Bs.push (HB64.out.below hb76) u1 u2); have HR78 := Lib.hid (Rows.push (HR65.out.below hb76) u1 u2); have HL79 := Lib.hid (below_push (HL66.out.trans (hb76.mono HL66.out.size)) u1 u2)
  clear hb76 HB64 HR65 HL66
  have isu := fun W (hb : Below w.heap.size w W) => impl_SumSlope a1 a2 b1 b2 W (HE.out.keeps hb)
  have ssu := fun W (hb : Below w.heap.size w W) => spec_SumSlope a1 a2 b1 b2 W
  obtain ⟨z0, hz⟩ : ∃ s, Sl.sum a1 a2 b1 b2 = s := ⟨_, rfl⟩
  obtain ⟨five, hfive⟩ : ∃ b, decide (Sl.sumOk a1 a2 b1 b2) = b := ⟨_, rfl⟩
  simp only [hz, hfive] at isu ssu
  obtain ⟨z1, z2⟩ := z0
  have ISU := Lib.hid isu
  have SSU := Lib.hid ssu
  have Hz := Lib.hid hz; have Hfive := Lib.hid hfive
  clear hz hfive isu ssu
  clear q67 q68 q69 q70 q71 q72 q73 q74
  obtain ⟨q80, q81, q82, q83⟩ := (HB77.out.get (i := 9) (N := w1.heap.size) (x := a1) (y := a2) rfl).four
  obtain ⟨q84, q85, q86, q87⟩ := (HB77.out.get (i := 8) (N := w1.heap.size + 1) (x := b1) (y := b2) rfl).four
  go_wp2_with fail
  refine (ISU.out _ HL79.out).mono ?_
  rintro e w88 ⟨rfl, hb89⟩
  have HB90 := Lib.hid (Bs.push (HB77.out.below hb89) z1 z2); have HR91 := Lib.hid (Rows.push (HR78.out.below hb89) z1 z2); have HL92 := Lib.hid (below_push (HL79.out.trans (hb89.mono HL79.out.size)) z1 z2)
  clear hb89 HB77 HR78 HL79
  clear q80 q81 q82 q83 q84 q85 q86 q87
  obtain ⟨q93, q94, q95, q96⟩ := (HB90.out.get (i := 10) (N := w1.heap.size) (x := a1) (y := a2) rfl).four
  obtain ⟨q97, q98, q99, q100⟩ := (HB90.out.get (i := 9) (N := w1.heap.size + 1) (x := b1) (y := b2) rfl).four
  go_wp2_with fail
  refine (SSU.out _ HL92.out).mono ?_
  rintro e w101 ⟨rfl, hb102⟩
  have HB103 := Lib.hid (Bs.push (HB90.out.below hb102) z1 z2); have HR104 := Lib.hid (Rows.push (HR91.out.below hb102) z1 z2); have HL105 := Lib.hid (below_push (HL92.out.trans (hb102.mono HL92.out.size)) z1 z2)
  clear hb102 HB90 HR91 HL92
  obtain ⟨R, hR⟩ : ∃ R, Sl.word a1 a2 = R := ⟨_, rfl⟩
  obtain ⟨n, hn⟩ : ∃ n, R.length = n := ⟨_, rfl⟩
  obtain ⟨seven, hseven⟩ : ∃ b, decide (Sl.WordOk a1 a2) = b := ⟨_, rfl⟩
  have iwo := fun W (hb : Below w.heap.size w W) => (impl_SlopeWord a1 a2 W (HE.out.keeps hb))
  have swo := fun W (hb : Below w.heap.size w W) => (spec_SlopeWord a1 a2 W)
  simp only [hR, hseven] at iwo swo
  have IWO := Lib.hid (fun W hb => (iwo W hb).mono fun e w' h => word2 hn h); have SWO := Lib.hid (fun W hb => (swo W hb).mono fun e w' h => word2 hn h)
  have Hn24 := Lib.hid (show n ≤ 24 by rw [← hn, ← hR]; exact Sl.word_tot a1 a2)
  have HR := Lib.hid hR; have Hn := Lib.hid hn; have Hseven := Lib.hid hseven
  clear iwo swo hR hn hseven
  clear q93 q94 q95 q96 q97 q98 q99 q100
  obtain ⟨q106, q107, q108, q109⟩ := (HB103.out.get (i := 11) (N := w1.heap.size) (x := a1) (y := a2) rfl).four
  go_wp2_with fail
  refine (IWO.out _ HL105.out).mono ?_
  rintro e w110 ⟨ra, rc, rfl, hrow1, hb111⟩
  have HB112 := Lib.hid (HB103.out.below hb111); have HR113 := Lib.hid (Rows.cons (HR104.out.below hb111) hrow1); have HL114 := Lib.hid (HL105.out.trans (hb111.mono HL105.out.size))
  clear hb111 HB103 HR104 HL105 hrow1
  clear q106 q107 q108 q109
  obtain ⟨q115, q116, q117, q118⟩ := (HB112.out.get (i := 11) (N := w1.heap.size) (x := a1) (y := a2) rfl).four
  as_aux_lemma =>
  go_wp2_with fail
  refine (SWO.out _ HL114.out).mono ?_
  rintro e w119 ⟨fa, fc, rfl, hrow2, hb120⟩
  have HB121 := Lib.hid (HB112.out.below hb120); have HR122 := Lib.hid (Rows.cons (HR113.out.below hb120) hrow2); have HL123 := Lib.hid (HL114.out.trans (hb120.mono HL114.out.size))
  clear hb120 HB112 HR113 HL114 hrow2
  go_upto_region 18 with fail
  have iia := fun W (hb : Below w.heap.size w W) => impl_IsSlope a1 a2 W (HE.out.keeps hb)
  have sia := fun W (hb : Below w.heap.size w W) => spec_IsSlope a1 a2 W
  obtain ⟨ia, hia⟩ : ∃ s, decide (Sl.Is a1 a2) = s := ⟨_, rfl⟩
  simp only [hia] at iia sia
  have IIA := Lib.hid iia
  have SIA := Lib.hid sia
  have Hia := Lib.hid hia; clear hia iia sia
  have ibp := fun W (hb : Below w.heap.size w W) => impl_IsBasisPair a1 a2 b1 b2 W (HE.out.keeps hb)
  simp only [HN.out] at ibp
  obtain ⟨bp, hbp⟩ : ∃ b, decide (N = 1) = b := ⟨_, rfl⟩
  simp only [hbp] at ibp
  have hbq : (N == 1) = bp := hbp
  have IBP := Lib.hid ibp
  have isam := fun W (h1 : RowAt W ra (intCells R)) (h2 : RowAt W fa (intCells R)) => sameInts_eq ra fa rc fc R W h1 h2 (by have := Hn24.out; have := Hn.out; omega)
  simp only [Hn.out] at isam
  have ISAM := Lib.hid isam
  clear ibp isam
  go_cut [189] from 119 to 189 (fun s189 wx => s189 = .bool false ∧ Bs wx [(w101.heap.size, z1, z2), (w88.heap.size, z1, z2), (w75.heap.size, u1, u2), (w62.heap.size, u1, u2), (w49.heap.size + 1, d1, d2), (w49.heap.size, c1, c2), (w44.heap.size, x1, x2), (w39.heap.size, x1, x2), (w29.heap.size, s1, s2), (w24.heap.size, s1, s2), (w1.heap.size + 1, b1, b2), (w1.heap.size, a1, a2)] ∧ Rows wx [(fa, R), (ra, R)] ∧ Below w.heap.size w wx)
  case first =>
    clear q115 q116 q117 q118
    have Hmk := Lib.hid (fun (V : World) (h : Below w119.heap.size w119 V) => show V.cell? ⟨w1.heap.size, 0, none⟩ = some (.int .i64 a1) ∧ V.cell? ⟨w1.heap.size, 1, none⟩ = some (.int .i64 a2) ∧ V.cell? ⟨w1.heap.size + 1, 0, none⟩ = some (.int .i64 b1) ∧ V.cell? ⟨w1.heap.size + 1, 1, none⟩ = some (.int .i64 b2) ∧ V.cell? ⟨w24.heap.size, 0, none⟩ = some (.int .i64 s1) ∧ V.cell? ⟨w24.heap.size, 1, none⟩ = some (.int .i64 s2) ∧ V.cell? ⟨w29.heap.size, 0, none⟩ = some (.int .i64 s1) ∧ V.cell? ⟨w29.heap.size, 1, none⟩ = some (.int .i64 s2) ∧ V.cell? ⟨w39.heap.size, 0, none⟩ = some (.int .i64 x1) ∧ V.cell? ⟨w39.heap.size, 1, none⟩ = some (.int .i64 x2) ∧ V.cell? ⟨w44.heap.size, 0, none⟩ = some (.int .i64 x1) ∧ V.cell? ⟨w44.heap.size, 1, none⟩ = some (.int .i64 x2) ∧ V.cell? ⟨w62.heap.size, 0, none⟩ = some (.int .i64 u1) ∧ V.cell? ⟨w62.heap.size, 1, none⟩ = some (.int .i64 u2) ∧ V.cell? ⟨w75.heap.size, 0, none⟩ = some (.int .i64 u1) ∧ V.cell? ⟨w75.heap.size, 1, none⟩ = some (.int .i64 u2) ∧ V.cell? ⟨w88.heap.size, 0, none⟩ = some (.int .i64 z1) ∧ V.cell? ⟨w88.heap.size, 1, none⟩ = some (.int .i64 z2) ∧ V.cell? ⟨w101.heap.size, 0, none⟩ = some (.int .i64 z1) ∧ V.cell? ⟨w101.heap.size, 1, none⟩ = some (.int .i64 z2) ∧ Below w119.heap.size w119 V from ⟨((HB121.out.below h).get (i := 11) (N := w1.heap.size) (x := a1) (y := a2) rfl).cell 0, ((HB121.out.below h).get (i := 11) (N := w1.heap.size) (x := a1) (y := a2) rfl).cell 1, ((HB121.out.below h).get (i := 10) (N := w1.heap.size + 1) (x := b1) (y := b2) rfl).cell 0, ((HB121.out.below h).get (i := 10) (N := w1.heap.size + 1) (x := b1) (y := b2) rfl).cell 1, ((HB121.out.below h).get (i := 9) (N := w24.heap.size) (x := s1) (y := s2) rfl).cell 0, ((HB121.out.below h).get (i := 9) (N := w24.heap.size) (x := s1) (y := s2) rfl).cell 1, ((HB121.out.below h).get (i := 8) (N := w29.heap.size) (x := s1) (y := s2) rfl).cell 0, ((HB121.out.below h).get (i := 8) (N := w29.heap.size) (x := s1) (y := s2) rfl).cell 1, ((HB121.out.below h).get (i := 7) (N := w39.heap.size) (x := x1) (y := x2) rfl).cell 0, ((HB121.out.below h).get (i := 7) (N := w39.heap.size) (x := x1) (y := x2) rfl).cell 1, ((HB121.out.below h).get (i := 6) (N := w44.heap.size) (x := x1) (y := x2) rfl).cell 0, ((HB121.out.below h).get (i := 6) (N := w44.heap.size) (x := x1) (y := x2) rfl).cell 1, ((HB121.out.below h).get (i := 3) (N := w62.heap.size) (x := u1) (y := u2) rfl).cell 0, ((HB121.out.below h).get (i := 3) (N := w62.heap.size) (x := u1) (y := u2) rfl).cell 1, ((HB121.out.below h).get (i := 2) (N := w75.heap.size) (x := u1) (y := u2) rfl).cell 0, ((HB121.out.below h).get (i := 2) (N := w75.heap.size) (x := u1) (y := u2) rfl).cell 1, ((HB121.out.below h).get (i := 1) (N := w88.heap.size) (x := z1) (y := z2) rfl).cell 0, ((HB121.out.below h).get (i := 1) (N := w88.heap.size) (x := z1) (y := z2) rfl).cell 1, ((HB121.out.below h).get (i := 0) (N := w101.heap.size) (x := z1) (y := z2) rfl).cell 0, ((HB121.out.below h).get (i := 0) (N := w101.heap.size) (x := z1) (y := z2) rfl).cell 1, h⟩)
    have Hpr := Lib.hid (fun (V : World) (h : V.cell? ⟨w1.heap.size, 0, none⟩ = some (.int .i64 a1) ∧ V.cell? ⟨w1.heap.size, 1, none⟩ = some (.int .i64 a2) ∧ V.cell? ⟨w1.heap.size + 1, 0, none⟩ = some (.int .i64 b1) ∧ V.cell? ⟨w1.heap.size + 1, 1, none⟩ = some (.int .i64 b2) ∧ V.cell? ⟨w24.heap.size, 0, none⟩ = some (.int .i64 s1) ∧ V.cell? ⟨w24.heap.size, 1, none⟩ = some (.int .i64 s2) ∧ V.cell? ⟨w29.heap.size, 0, none⟩ = some (.int .i64 s1) ∧ V.cell? ⟨w29.heap.size, 1, none⟩ = some (.int .i64 s2) ∧ V.cell? ⟨w39.heap.size, 0, none⟩ = some (.int .i64 x1) ∧ V.cell? ⟨w39.heap.size, 1, none⟩ = some (.int .i64 x2) ∧ V.cell? ⟨w44.heap.size, 0, none⟩ = some (.int .i64 x1) ∧ V.cell? ⟨w44.heap.size, 1, none⟩ = some (.int .i64 x2) ∧ V.cell? ⟨w62.heap.size, 0, none⟩ = some (.int .i64 u1) ∧ V.cell? ⟨w62.heap.size, 1, none⟩ = some (.int .i64 u2) ∧ V.cell? ⟨w75.heap.size, 0, none⟩ = some (.int .i64 u1) ∧ V.cell? ⟨w75.heap.size, 1, none⟩ = some (.int .i64 u2) ∧ V.cell? ⟨w88.heap.size, 0, none⟩ = some (.int .i64 z1) ∧ V.cell? ⟨w88.heap.size, 1, none⟩ = some (.int .i64 z2) ∧ V.cell? ⟨w101.heap.size, 0, none⟩ = some (.int .i64 z1) ∧ V.cell? ⟨w101.heap.size, 1, none⟩ = some (.int .i64 z2) ∧ Below w119.heap.size w119 V) => show Below w119.heap.size w119 V from h.2.2.2.2.2.2.2.2.2.2.2.2.2.2.2.2.2.2.2.2)
    have Hch := Lib.hid (fun (V : World) (h : Below w119.heap.size w119 V) => show Below w.heap.size w V from HL123.out.trans (h.mono HL123.out.size))
    try simp only [List.append_eq, List.cons_append, List.nil_append]
    refine held_begin (S := fun w' => w'.cell? ⟨w1.heap.size, 0, none⟩ = some (.int .i64 a1) ∧ w'.cell? ⟨w1.heap.size, 1, none⟩ = some (.int .i64 a2) ∧ w'.cell? ⟨w1.heap.size + 1, 0, none⟩ = some (.int .i64 b1) ∧ w'.cell? ⟨w1.heap.size + 1, 1, none⟩ = some (.int .i64 b2) ∧ w'.cell? ⟨w24.heap.size, 0, none⟩ = some (.int .i64 s1) ∧ w'.cell? ⟨w24.heap.size, 1, none⟩ = some (.int .i64 s2) ∧ w'.cell? ⟨w29.heap.size, 0, none⟩ = some (.int .i64 s1) ∧ w'.cell? ⟨w29.heap.size, 1, none⟩ = some (.int .i64 s2) ∧ w'.cell? ⟨w39.heap.size, 0, none⟩ = some (.int .i64 x1) ∧ w'.cell? ⟨w39.heap.size, 1, none⟩ = some (.int .i64 x2) ∧ w'.cell? ⟨w44.heap.size, 0, none⟩ = some (.int .i64 x1) ∧ w'.cell? ⟨w44.heap.size, 1, none⟩ = some (.int .i64 x2) ∧ w'.cell? ⟨w62.heap.size, 0, none⟩ = some (.int .i64 u1) ∧ w'.cell? ⟨w62.heap.size, 1, none⟩ = some (.int .i64 u2) ∧ w'.cell? ⟨w75.heap.size, 0, none⟩ = some (.int .i64 u1) ∧ w'.cell? ⟨w75.heap.size, 1, none⟩ = some (.int .i64 u2) ∧ w'.cell? ⟨w88.heap.size, 0, none⟩ = some (.int .i64 z1) ∧ w'.cell? ⟨w88.heap.size, 1, none⟩ = some (.int .i64 z2) ∧ w'.cell? ⟨w101.heap.size, 0, none⟩ = some (.int .i64 z1) ∧ w'.cell? ⟨w101.heap.size, 1, none⟩ = some (.int .i64 z2) ∧ Below w119.heap.size w119 w') 71 (by kernel_rfl) rfl ?_ (fun hHeld => ?_)
    · exact Hmk.out _ (Below.drew (Below.refl _ _))
    try simp only [Array.replicate]
    refine held_take (i := 0) (v := ?_) rfl (by as_aux_lemma => kernel_rfl) (fun _ _ _ h => h) (by rfl) ?_ hHeld ?_
    rotate_left; · (intro w' _; go_simp; try with_reducible rfl)
    try simp only [Act.put, List.setIfInBounds_toArray, List.set_cons_zero, List.set_cons_succ]
    refine held_take (i := 1) (v := ?_) rfl (by as_aux_lemma => kernel_rfl) (fun _ _ _ h => h) (by rfl) ?_ hHeld ?_
    rotate_left; · (intro w' hSw; go_split_ands; go_simp; try with_reducible rfl)
    try simp only [Act.put, List.setIfInBounds_toArray, List.set_cons_zero, List.set_cons_succ]
    refine held_take (i := 2) (v := ?_) rfl (by as_aux_lemma => kernel_rfl) (fun _ _ _ h => h) (by rfl) ?_ hHeld ?_
    rotate_left; · (intro w' hSw; go_split_ands; go_simp; try with_reducible rfl)
    try simp only [Act.put, List.setIfInBounds_toArray, List.set_cons_zero, List.set_cons_succ]
    refine held_one (i := 3) rfl (by as_aux_lemma => kernel_rfl) (fun K hK => ?_)
    go_simp
    go_at_call 53
    refine (SCN.out _ (Hch.out _ (Hpr.out _ hHeld))).mono ?_
    rintro e v124 ⟨rfl, hb125⟩
    have hS126 := Hmk.out _ ((Hpr.out _ hHeld).trans (hb125.mono (Hpr.out _ hHeld).size))
    clear hb125 hHeld
    go_simp
    refine hK.out _ _ hS126 (fun hHeld127 => ?_)
    clear hK K hS126
    try simp only [Act.put, List.setIfInBounds_toArray, List.set_cons_zero, List.set_cons_succ]
    refine held_take (i := 4) (v := ?_) rfl (by as_aux_lemma => kernel_rfl) (fun _ _ _ h => h) (by rfl) ?_ hHeld127 ?_
    rotate_left; · (intro w' _; go_simp; try with_reducible rfl)
    try simp only [Act.put, List.setIfInBounds_toArray, List.set_cons_zero, List.set_cons_succ]
    refine held_take (i := 5) (v := ?_) rfl (by as_aux_lemma => kernel_rfl) (fun _ _ _ h => h) (by rfl) ?_ hHeld127 ?_
    rotate_left; · (intro w' _; go_simp; try with_reducible rfl)
    try simp only [Act.put, List.setIfInBounds_toArray, List.set_cons_zero, List.set_cons_succ]
    refine held_take (i := 6) (v := ?_) rfl (by as_aux_lemma => kernel_rfl) (fun _ _ _ h => h) (by rfl) ?_ hHeld127 ?_
    rotate_left; · (intro w' _; go_simp; try with_reducible rfl)
    try simp only [Act.put, List.setIfInBounds_toArray, List.set_cons_zero, List.set_cons_succ]
    refine held_take (i := 7) (v := ?_) rfl (by as_aux_lemma => kernel_rfl) (fun _ _ _ h => h) (by rfl) ?_ hHeld127 ?_
    rotate_left; · (intro w' _; go_simp; try with_reducible rfl)
    try simp only [Act.put, List.setIfInBounds_toArray, List.set_cons_zero, List.set_cons_succ]
    refine held_take (i := 8) (v := ?_) rfl (by as_aux_lemma => kernel_rfl) (fun _ _ _ h => h) (by rfl) ?_ hHeld127 ?_
    rotate_left; · (intro w' _; go_simp; try with_reducible rfl)
    try simp only [Act.put, List.setIfInBounds_toArray, List.set_cons_zero, List.set_cons_succ]
    refine held_take (i := 9) (v := ?_) rfl (by as_aux_lemma => kernel_rfl) (fun _ _ _ h => h) (by rfl) ?_ hHeld127 ?_
    rotate_left; · (intro w' _; go_simp; try with_reducible rfl)
    try simp only [Act.put, List.setIfInBounds_toArray, List.set_cons_zero, List.set_cons_succ]
    refine held_take (i := 10) (v := ?_) rfl (by as_aux_lemma => kernel_rfl) (fun _ _ _ h => h) (by rfl) ?_ hHeld127 ?_
    rotate_left; · (intro w' _; go_simp; try with_reducible rfl)
    try simp only [Act.put, List.setIfInBounds_toArray, List.set_cons_zero, List.set_cons_succ]
    as_aux_lemma =>
    refine held_take (i := 11) (v := ?_) rfl (by as_aux_lemma => kernel_rfl) (fun _ _ _ h => h) (by rfl) ?_ hHeld127 ?_
    rotate_left; · (intro w' hSw; go_split_ands; go_simp; try with_reducible rfl)
    try simp only [Act.put, List.setIfInBounds_toArray, List.set_cons_zero, List.set_cons_succ]
    refine held_take (i := 12) (v := ?_) rfl (by as_aux_lemma => kernel_rfl) (fun _ _ _ h => h) (by rfl) ?_ hHeld127 ?_
    rotate_left; · (intro w' hSw; go_split_ands; go_simp; try with_reducible rfl)
    try simp only [Act.put, List.setIfInBounds_toArray, List.set_cons_zero, List.set_cons_succ]
    refine held_take (i := 13) (v := ?_) rfl (by as_aux_lemma => kernel_rfl) (fun _ _ _ h => h) (by rfl) ?_ hHeld127 ?_
    rotate_left; · (intro w' _; go_simp; try with_reducible rfl)
    try simp only [Act.put, List.setIfInBounds_toArray, List.set_cons_zero, List.set_cons_succ]
    refine held_take (i := 14) (v := ?_) rfl (by as_aux_lemma => kernel_rfl) (fun _ _ _ h => h) (by rfl) ?_ hHeld127 ?_
    rotate_left; · (intro w' _; go_simp; try with_reducible rfl)
    try simp only [Act.put, List.setIfInBounds_toArray, List.set_cons_zero, List.set_cons_succ]
    refine held_take (i := 15) (v := ?_) rfl (by as_aux_lemma => kernel_rfl) (fun _ _ _ h => h) (by rfl) ?_ hHeld127 ?_
    rotate_left; · (intro w' _; go_simp; try with_reducible rfl)
    try simp only [Act.put, List.setIfInBounds_toArray, List.set_cons_zero, List.set_cons_succ]
    refine held_take (i := 16) (v := ?_) rfl (by as_aux_lemma => kernel_rfl) (fun _ _ _ h => h) (by rfl) ?_ hHeld127 ?_
    rotate_left; · (intro w' _; go_simp; try with_reducible rfl)
    try simp only [Act.put, List.setIfInBounds_toArray, List.set_cons_zero, List.set_cons_succ]
    refine held_take (i := 17) (v := ?_) rfl (by as_aux_lemma => kernel_rfl) (fun _ _ _ h => h) (by rfl) ?_ hHeld127 ?_
    rotate_left; · (intro w' _; go_simp; try with_reducible rfl)
    try simp only [Act.put, List.setIfInBounds_toArray, List.set_cons_zero, List.set_cons_succ]
    refine held_take (i := 18) (v := ?_) rfl (by as_aux_lemma => kernel_rfl) (fun _ _ _ h => h) (by rfl) ?_ hHeld127 ?_
    rotate_left; · (intro w' _; go_simp; try with_reducible rfl)
    try simp only [Act.put, List.setIfInBounds_toArray, List.set_cons_zero, List.set_cons_succ]
    refine held_take (i := 19) (v := ?_) rfl (by as_aux_lemma => kernel_rfl) (fun _ _ _ h => h) (by rfl) ?_ hHeld127 ?_
    rotate_left; · (intro w' _; go_simp; try with_reducible rfl)
    try simp only [Act.put, List.setIfInBounds_toArray, List.set_cons_zero, List.set_cons_succ]
    refine held_take (i := 20) (v := ?_) rfl (by as_aux_lemma => kernel_rfl) (fun _ _ _ h => h) (by rfl) ?_ hHeld127 ?_
    rotate_left; · (intro w' _; go_simp; try with_reducible rfl)
    try simp only [Act.put, List.setIfInBounds_toArray, List.set_cons_zero, List.set_cons_succ]
    refine held_take (i := 21) (v := ?_) rfl (by as_aux_lemma => kernel_rfl) (fun _ _ _ h => h) (by rfl) ?_ hHeld127 ?_
    rotate_left; · (intro w' hSw; go_split_ands; go_simp; try with_reducible rfl)
    try simp only [Act.put, List.setIfInBounds_toArray, List.set_cons_zero, List.set_cons_succ]
    refine held_take (i := 22) (v := ?_) rfl (by as_aux_lemma => kernel_rfl) (fun _ _ _ h => h) (by rfl) ?_ hHeld127 ?_
    rotate_left; · (intro w' hSw; go_split_ands; go_simp; try with_reducible rfl)
    try simp only [Act.put, List.setIfInBounds_toArray, List.set_cons_zero, List.set_cons_succ]
    as_aux_lemma =>
    refine held_take (i := 23) (v := ?_) rfl (by as_aux_lemma => kernel_rfl) (fun _ _ _ h => h) (by rfl) ?_ hHeld127 ?_
    rotate_left; · (intro w' _; go_simp; try with_reducible rfl)
    try simp only [Act.put, List.setIfInBounds_toArray, List.set_cons_zero, List.set_cons_succ]
    refine held_take (i := 24) (v := ?_) rfl (by as_aux_lemma => kernel_rfl) (fun _ _ _ h => h) (by rfl) ?_ hHeld127 ?_
    rotate_left; · (intro w' _; go_simp; try with_reducible rfl)
    try simp only [Act.put, List.setIfInBounds_toArray, List.set_cons_zero, List.set_cons_succ]
    refine held_take (i := 25) (v := ?_) rfl (by as_aux_lemma => kernel_rfl) (fun _ _ _ h => h) (by rfl) ?_ hHeld127 ?_
    rotate_left; · (intro w' _; go_simp; try with_reducible rfl)
    try simp only [Act.put, List.setIfInBounds_toArray, List.set_cons_zero, List.set_cons_succ]
    refine held_take (i := 26) (v := ?_) rfl (by as_aux_lemma => kernel_rfl) (fun _ _ _ h => h) (by rfl) ?_ hHeld127 ?_
    rotate_left; · (intro w' _; go_simp; try with_reducible rfl)
    try simp only [Act.put, List.setIfInBounds_toArray, List.set_cons_zero, List.set_cons_succ]
    refine held_take (i := 27) (v := ?_) rfl (by as_aux_lemma => kernel_rfl) (fun _ _ _ h => h) (by rfl) ?_ hHeld127 ?_
    rotate_left; · (intro w' _; go_simp; try with_reducible rfl)
    try simp only [Act.put, List.setIfInBounds_toArray, List.set_cons_zero, List.set_cons_succ]
    refine held_take (i := 28) (v := ?_) rfl (by as_aux_lemma => kernel_rfl) (fun _ _ _ h => h) (by rfl) ?_ hHeld127 ?_
    rotate_left; · (intro w' _; go_simp; try with_reducible rfl)
    try simp only [Act.put, List.setIfInBounds_toArray, List.set_cons_zero, List.set_cons_succ]
    refine held_take (i := 29) (v := ?_) rfl (by as_aux_lemma => kernel_rfl) (fun _ _ _ h => h) (by rfl) ?_ hHeld127 ?_
    rotate_left; · (intro w' _; go_simp; try with_reducible rfl)
    try simp only [Act.put, List.setIfInBounds_toArray, List.set_cons_zero, List.set_cons_succ]
    refine held_take (i := 30) (v := ?_) rfl (by as_aux_lemma => kernel_rfl) (fun _ _ _ h => h) (by rfl) ?_ hHeld127 ?_
    rotate_left; · (intro w' _; go_simp; try with_reducible rfl)
    try simp only [Act.put, List.setIfInBounds_toArray, List.set_cons_zero, List.set_cons_succ]
    refine held_take (i := 31) (v := ?_) rfl (by as_aux_lemma => kernel_rfl) (fun _ _ _ h => h) (by rfl) ?_ hHeld127 ?_
    rotate_left; · (intro w' hSw; go_split_ands; go_simp; try with_reducible rfl)
    try simp only [Act.put, List.setIfInBounds_toArray, List.set_cons_zero, List.set_cons_succ]
    refine held_take (i := 32) (v := ?_) rfl (by as_aux_lemma => kernel_rfl) (fun _ _ _ h => h) (by rfl) ?_ hHeld127 ?_
    rotate_left; · (intro w' hSw; go_split_ands; go_simp; try with_reducible rfl)
    try simp only [Act.put, List.setIfInBounds_toArray, List.set_cons_zero, List.set_cons_succ]
    refine held_take (i := 33) (v := ?_) rfl (by as_aux_lemma => kernel_rfl) (fun _ _ _ h => h) (by rfl) ?_ hHeld127 ?_
    rotate_left; · (intro w' _; go_simp; try with_reducible rfl)
    try simp only [Act.put, List.setIfInBounds_toArray, List.set_cons_zero, List.set_cons_succ]
    refine held_take (i := 34) (v := ?_) rfl (by as_aux_lemma => kernel_rfl) (fun _ _ _ h => h) (by rfl) ?_ hHeld127 ?_
    rotate_left; · (intro w' _; go_simp; try with_reducible rfl)
    try simp only [Act.put, List.setIfInBounds_toArray, List.set_cons_zero, List.set_cons_succ]
    as_aux_lemma =>
    refine held_take (i := 35) (v := ?_) rfl (by as_aux_lemma => kernel_rfl) (fun _ _ _ h => h) (by rfl) ?_ hHeld127 ?_
    rotate_left; · (intro w' _; go_simp; try with_reducible rfl)
    try simp only [Act.put, List.setIfInBounds_toArray, List.set_cons_zero, List.set_cons_succ]
    refine held_take (i := 36) (v := ?_) rfl (by as_aux_lemma => kernel_rfl) (fun _ _ _ h => h) (by rfl) ?_ hHeld127 ?_
    rotate_left; · (intro w' _; go_simp; try with_reducible rfl)
    try simp only [Act.put, List.setIfInBounds_toArray, List.set_cons_zero, List.set_cons_succ]
    refine held_take (i := 37) (v := ?_) rfl (by as_aux_lemma => kernel_rfl) (fun _ _ _ h => h) (by rfl) ?_ hHeld127 ?_
    rotate_left; · (intro w' _; go_simp; try with_reducible rfl)
    try simp only [Act.put, List.setIfInBounds_toArray, List.set_cons_zero, List.set_cons_succ]
    refine held_take (i := 38) (v := ?_) rfl (by as_aux_lemma => kernel_rfl) (fun _ _ _ h => h) (by rfl) ?_ hHeld127 ?_
    rotate_left; · (intro w' _; go_simp; try with_reducible rfl)
    try simp only [Act.put, List.setIfInBounds_toArray, List.set_cons_zero, List.set_cons_succ]
    refine held_take (i := 39) (v := ?_) rfl (by as_aux_lemma => kernel_rfl) (fun _ _ _ h => h) (by rfl) ?_ hHeld127 ?_
    rotate_left; · (intro w' _; go_simp; try with_reducible rfl)
    try simp only [Act.put, List.setIfInBounds_toArray, List.set_cons_zero, List.set_cons_succ]
    refine held_take (i := 40) (v := ?_) rfl (by as_aux_lemma => kernel_rfl) (fun _ _ _ h => h) (by rfl) ?_ hHeld127 ?_
    rotate_left; · (intro w' _; go_simp; try with_reducible rfl)
    try simp only [Act.put, List.setIfInBounds_toArray, List.set_cons_zero, List.set_cons_succ]
    refine held_take (i := 41) (v := ?_) rfl (by as_aux_lemma => kernel_rfl) (fun _ _ _ h => h) (by rfl) ?_ hHeld127 ?_
    rotate_left; · (intro w' hSw; go_split_ands; go_simp; try with_reducible rfl)
    try simp only [Act.put, List.setIfInBounds_toArray, List.set_cons_zero, List.set_cons_succ]
    refine held_take (i := 42) (v := ?_) rfl (by as_aux_lemma => kernel_rfl) (fun _ _ _ h => h) (by rfl) ?_ hHeld127 ?_
    rotate_left; · (intro w' hSw; go_split_ands; go_simp; try with_reducible rfl)
    try simp only [Act.put, List.setIfInBounds_toArray, List.set_cons_zero, List.set_cons_succ]
    refine held_take (i := 43) (v := ?_) rfl (by as_aux_lemma => kernel_rfl) (fun _ _ _ h => h) (by rfl) ?_ hHeld127 ?_
    rotate_left; · (intro w' _; go_simp; try with_reducible rfl)
    try simp only [Act.put, List.setIfInBounds_toArray, List.set_cons_zero, List.set_cons_succ]
    refine held_take (i := 44) (v := ?_) rfl (by as_aux_lemma => kernel_rfl) (fun _ _ _ h => h) (by rfl) ?_ hHeld127 ?_
    rotate_left; · (intro w' _; go_simp; try with_reducible rfl)
    try simp only [Act.put, List.setIfInBounds_toArray, List.set_cons_zero, List.set_cons_succ]
    refine held_take (i := 45) (v := ?_) rfl (by as_aux_lemma => kernel_rfl) (fun _ _ _ h => h) (by rfl) ?_ hHeld127 ?_
    rotate_left; · (intro w' _; go_simp; try with_reducible rfl)
    try simp only [Act.put, List.setIfInBounds_toArray, List.set_cons_zero, List.set_cons_succ]
    refine held_take (i := 46) (v := ?_) rfl (by as_aux_lemma => kernel_rfl) (fun _ _ _ h => h) (by rfl) ?_ hHeld127 ?_
    rotate_left; · (intro w' _; go_simp; try with_reducible rfl)
    try simp only [Act.put, List.setIfInBounds_toArray, List.set_cons_zero, List.set_cons_succ]
    as_aux_lemma =>
    refine held_take (i := 47) (v := ?_) rfl (by as_aux_lemma => kernel_rfl) (fun _ _ _ h => h) (by rfl) ?_ hHeld127 ?_
    rotate_left; · (intro w' _; go_simp; try with_reducible rfl)
    try simp only [Act.put, List.setIfInBounds_toArray, List.set_cons_zero, List.set_cons_succ]
    refine held_take (i := 48) (v := ?_) rfl (by as_aux_lemma => kernel_rfl) (fun _ _ _ h => h) (by rfl) ?_ hHeld127 ?_
    rotate_left; · (intro w' _; go_simp; try with_reducible rfl)
    try simp only [Act.put, List.setIfInBounds_toArray, List.set_cons_zero, List.set_cons_succ]
    refine held_take (i := 49) (v := ?_) rfl (by as_aux_lemma => kernel_rfl) (fun _ _ _ h => h) (by rfl) ?_ hHeld127 ?_
    rotate_left; · (intro w' _; go_simp; try with_reducible rfl)
    try simp only [Act.put, List.setIfInBounds_toArray, List.set_cons_zero, List.set_cons_succ]
    refine held_take (i := 50) (v := ?_) rfl (by as_aux_lemma => kernel_rfl) (fun _ _ _ h => h) (by rfl) ?_ hHeld127 ?_
    rotate_left; · (intro w' _; go_simp; try with_reducible rfl)
    try simp only [Act.put, List.setIfInBounds_toArray, List.set_cons_zero, List.set_cons_succ]
    refine held_take (i := 51) (v := ?_) rfl (by as_aux_lemma => kernel_rfl) (fun _ _ _ h => h) (by rfl) ?_ hHeld127 ?_
    rotate_left; · (intro w' _; go_simp; try with_reducible rfl)
    try simp only [Act.put, List.setIfInBounds_toArray, List.set_cons_zero, List.set_cons_succ]
    refine held_take (i := 52) (v := ?_) rfl (by as_aux_lemma => kernel_rfl) (fun _ _ _ h => h) (by rfl) ?_ hHeld127 ?_
    rotate_left; · (intro w' _; go_simp; try with_reducible rfl)
    try simp only [Act.put, List.setIfInBounds_toArray, List.set_cons_zero, List.set_cons_succ]
    refine held_one (i := 53) rfl (by as_aux_lemma => kernel_rfl) (fun K hK => ?_)
    go_simp
    go_at_call 15
    refine (ISAM.out _ ((HR122.out.below (Hpr.out _ hHeld127)).get ra R (by simp)) ((HR122.out.below (Hpr.out _ hHeld127)).get fa R (by simp))).mono ?_
    rintro e v128 ⟨rfl, hb129⟩
    have hS130 := Hmk.out _ ((Hpr.out _ hHeld127).trans (hb129.mono (Hpr.out _ hHeld127).size))
    clear hb129 hHeld127
    go_simp
    refine hK.out _ _ hS130 (fun hHeld131 => ?_)
    clear hK K hS130
    try simp only [Act.put, List.setIfInBounds_toArray, List.set_cons_zero, List.set_cons_succ]
    refine held_take (i := 54) (v := ?_) rfl (by as_aux_lemma => kernel_rfl) (fun _ _ _ h => h) (by rfl) ?_ hHeld131 ?_
    rotate_left; · (intro w' _; go_simp; try with_reducible rfl)
    try simp only [Act.put, List.setIfInBounds_toArray, List.set_cons_zero, List.set_cons_succ]
    refine held_take (i := 55) (v := ?_) rfl (by as_aux_lemma => kernel_rfl) (fun _ _ _ h => h) (by rfl) ?_ hHeld131 ?_
    rotate_left; · (intro w' _; go_simp; try with_reducible rfl)
    try simp only [Act.put, List.setIfInBounds_toArray, List.set_cons_zero, List.set_cons_succ]
    refine held_take (i := 56) (v := ?_) rfl (by as_aux_lemma => kernel_rfl) (fun _ _ _ h => h) (by rfl) ?_ hHeld131 ?_
    rotate_left; · (intro w' _; go_simp; try with_reducible rfl)
    try simp only [Act.put, List.setIfInBounds_toArray, List.set_cons_zero, List.set_cons_succ]
    refine held_take (i := 57) (v := ?_) rfl (by as_aux_lemma => kernel_rfl) (fun _ _ _ h => h) (by rfl) ?_ hHeld131 ?_
    rotate_left; · (intro w' hSw; go_split_ands; go_simp; try with_reducible rfl)
    try simp only [Act.put, List.setIfInBounds_toArray, List.set_cons_zero, List.set_cons_succ]
    refine held_take (i := 59) (v := ?_) rfl (by as_aux_lemma => kernel_rfl) (fun _ _ _ h => h) (by rfl) ?_ hHeld131 ?_
    rotate_left; · (intro w' hSw; go_split_ands; go_simp; try with_reducible rfl)
    try simp only [Act.put, List.setIfInBounds_toArray, List.set_cons_zero, List.set_cons_succ]
    as_aux_lemma =>
    refine held_one (i := 58) rfl (by as_aux_lemma => kernel_rfl) (fun K hK => ?_)
    go_simp
    go_at_call 54
    refine (IIA.out _ (Hch.out _ (Hpr.out _ hHeld131))).mono ?_
    rintro e v132 ⟨rfl, hb133⟩
    have hS134 := Hmk.out _ ((Hpr.out _ hHeld131).trans (hb133.mono (Hpr.out _ hHeld131).size))
    clear hb133 hHeld131
    go_simp
    refine hK.out _ _ hS134 (fun hHeld135 => ?_)
    clear hK K hS134
    try simp only [Act.put, List.setIfInBounds_toArray, List.set_cons_zero, List.set_cons_succ]
    refine held_one (i := 60) rfl (by as_aux_lemma => kernel_rfl) (fun K hK => ?_)
    go_simp
    go_at_call 55
    refine (SIA.out _ (Hch.out _ (Hpr.out _ hHeld135))).mono ?_
    rintro e v136 ⟨rfl, hb137⟩
    have hS138 := Hmk.out _ ((Hpr.out _ hHeld135).trans (hb137.mono (Hpr.out _ hHeld135).size))
    clear hb137 hHeld135
    go_simp
    refine hK.out _ _ hS138 (fun hHeld139 => ?_)
    clear hK K hS138
    try simp only [Act.put, List.setIfInBounds_toArray, List.set_cons_zero, List.set_cons_succ]
    refine held_take (i := 61) (v := ?_) rfl (by as_aux_lemma => kernel_rfl) (fun _ _ _ h => h) (by rfl) ?_ hHeld139 ?_
    rotate_left; · (intro w' _; go_simp; try with_reducible rfl)
    try simp only [Act.put, List.setIfInBounds_toArray, List.set_cons_zero, List.set_cons_succ]
    refine held_take (i := 62) (v := ?_) rfl (by as_aux_lemma => kernel_rfl) (fun _ _ _ h => h) (by rfl) ?_ hHeld139 ?_
    rotate_left; · (intro w' _; go_simp; try with_reducible rfl)
    try simp only [Act.put, List.setIfInBounds_toArray, List.set_cons_zero, List.set_cons_succ]
    refine held_take (i := 63) (v := ?_) rfl (by as_aux_lemma => kernel_rfl) (fun _ _ _ h => h) (by rfl) ?_ hHeld139 ?_
    rotate_left; · (intro w' _; go_simp; try with_reducible rfl)
    try simp only [Act.put, List.setIfInBounds_toArray, List.set_cons_zero, List.set_cons_succ]
    refine held_take (i := 64) (v := ?_) rfl (by as_aux_lemma => kernel_rfl) (fun _ _ _ h => h) (by rfl) ?_ hHeld139 ?_
    rotate_left; · (intro w' hSw; go_split_ands; go_simp; try with_reducible rfl)
    try simp only [Act.put, List.setIfInBounds_toArray, List.set_cons_zero, List.set_cons_succ]
    refine held_take (i := 65) (v := ?_) rfl (by as_aux_lemma => kernel_rfl) (fun _ _ _ h => h) (by rfl) ?_ hHeld139 ?_
    rotate_left; · (intro w' hSw; go_split_ands; go_simp; try with_reducible rfl)
    try simp only [Act.put, List.setIfInBounds_toArray, List.set_cons_zero, List.set_cons_succ]
    refine held_take (i := 67) (v := ?_) rfl (by as_aux_lemma => kernel_rfl) (fun _ _ _ h => h) (by rfl) ?_ hHeld139 ?_
    rotate_left; · (intro w' _; go_simp; try with_reducible rfl)
    try simp only [Act.put, List.setIfInBounds_toArray, List.set_cons_zero, List.set_cons_succ]
    refine held_take (i := 68) (v := ?_) rfl (by as_aux_lemma => kernel_rfl) (fun _ _ _ h => h) (by rfl) ?_ hHeld139 ?_
    rotate_left; · (intro w' _; go_simp; try with_reducible rfl)
    try simp only [Act.put, List.setIfInBounds_toArray, List.set_cons_zero, List.set_cons_succ]
    refine held_one (i := 66) rfl (by as_aux_lemma => kernel_rfl) (fun K hK => ?_)
    go_simp
    go_at_call 56
    refine (IBP.out _ (Hch.out _ (Hpr.out _ hHeld139))).mono ?_
    rintro e v140 ⟨rfl, hb141⟩
    have hS142 := Hmk.out _ ((Hpr.out _ hHeld139).trans (hb141.mono (Hpr.out _ hHeld139).size))
    clear hb141 hHeld139
    go_simp
    refine hK.out _ _ hS142 (fun hHeld143 => ?_)
    clear hK K hS142
    try simp only [Act.put, List.setIfInBounds_toArray, List.set_cons_zero, List.set_cons_succ]
    refine held_take (i := 69) (v := ?_) rfl (by as_aux_lemma => kernel_rfl) (fun _ _ _ h => h) (by rfl) ?_ hHeld143 ?_
    rotate_left; · (intro w' _; go_simp; try with_reducible rfl)
    try simp only [Act.put, List.setIfInBounds_toArray, List.set_cons_zero, List.set_cons_succ]
    refine held_take (i := 70) (v := ?_) rfl (by as_aux_lemma => kernel_rfl) (fun _ _ _ h => h) (by rfl) ?_ hHeld143 ?_
    rotate_left; · (intro w' _; go_simp; try with_reducible rfl)
    try simp only [Act.put, List.setIfInBounds_toArray, List.set_cons_zero, List.set_cons_succ]
    refine held_done (by as_aux_lemma => kernel_rfl) ?_
    go_wp2_with fail
    go_meet
    exact ⟨by first | rfl | simp [*], HB121.out.below (Hpr.out _ hHeld143), HR122.out.below (Hpr.out _ hHeld143), Hch.out _ (Hpr.out _ hHeld143)⟩
  case rest =>
  obtain ⟨rfl, hB144, hR145, hL146⟩ := hcut
  have HB147 := Lib.hid hB144; have HR148 := Lib.hid hR145; have HL149 := Lib.hid hL146; clear hB144 hR145 hL146
  obtain ⟨w150, hwc⟩ : ∃ W, W = wc := ⟨_, rfl⟩
  subst hwc
  clear hbp hbq
  have itx := fun W (hb : Below w.heap.size w W) => impl_SlopeText a1 a2 W (HE.out.keeps hb) (HLd.out.keeps hb).tab
  have stx := fun W (hb : Below w.heap.size w W) => spec_SlopeText a1 a2 W
  have ips2 := fun W (hb : Below w.heap.size w W) => impl_ParseSlope (Sl.text a1 a2) W (text_len a1 a2) (HE.out.keeps hb) (HLd.out.keeps hb) (shaped_below Hsh.out hb)
  have hto := text_ok a1 a2
  have htb := fun h => @text_back a1 a2 h
  obtain ⟨V, hV⟩ : ∃ V, Sl.text a1 a2 = V := ⟨_, rfl⟩
  simp only [hV] at itx stx ips2 hto htb
  obtain ⟨k0, hk0⟩ : ∃ s, Sl.parsed V = s := ⟨_, rfl⟩
  simp only [hk0, hto, Hia.out] at ips2
  simp only [hk0] at htb
  obtain ⟨k1, k2⟩ := k0
  have ITX := Lib.hid itx; have STX := Lib.hid stx; have IPT := Lib.hid ips2
  have Hback := Lib.hid (show ia = true → k1 = a1 ∧ k2 = a2 from fun h => by have := htb (of_decide_eq_true (Hia.out.trans h)); exact ⟨congrArg Prod.fst this, congrArg Prod.snd this⟩)
  clear itx stx ips2 hto htb hk0
  obtain ⟨q151, q152, q153, q154⟩ := (HB147.out.get (i := 11) (N := w1.heap.size) (x := a1) (y := a2) rfl).four
  go_wp2_with fail
  refine (ITX.out _ HL149.out).mono ?_
  rintro e w155 ⟨rfl, hb156⟩
  have HB157 := Lib.hid (HB147.out.below hb156); have HR158 := Lib.hid (HR148.out.below hb156); have HL159 := Lib.hid (HL149.out.trans (hb156.mono HL149.out.size))
  clear hb156 HB147 HR148 HL149
  clear q151 q152 q153 q154
  go_wp2_with fail
  refine (IPT.out _ HL159.out).mono ?_
  rintro e w160 ⟨rfl, hb161⟩
  have HB162 := Lib.hid (Bs.push (HB157.out.below hb161) k1 k2); have HR163 := Lib.hid (Rows.push (HR158.out.below hb161) k1 k2); have HL164 := Lib.hid (below_push (HL159.out.trans (hb161.mono HL159.out.size)) k1 k2)
  clear hb161 HB157 HR158 HL159
  go_upto_region 22 with fail
  go_cut [214] from 197 to 214 (fun s214 wx => s214 = .bool false ∧ Bs wx [(w160.heap.size, k1, k2), (w101.heap.size, z1, z2), (w88.heap.size, z1, z2), (w75.heap.size, u1, u2), (w62.heap.size, u1, u2), (w49.heap.size + 1, d1, d2), (w49.heap.size, c1, c2), (w44.heap.size, x1, x2), (w39.heap.size, x1, x2), (w29.heap.size, s1, s2), (w24.heap.size, s1, s2), (w1.heap.size + 1, b1, b2), (w1.heap.size, a1, a2)] ∧ Rows wx [(fa, R), (ra, R)] ∧ Below w.heap.size w wx)
  case first =>
    cases ia with
    | false => as_aux_lemma =>
      obtain ⟨q165, q166, q167, q168⟩ := (HB162.out.get (i := 12) (N := w1.heap.size) (x := a1) (y := a2) rfl).four
      obtain ⟨q169, q170, q171, q172⟩ := (HB162.out.get (i := 0) (N := w160.heap.size) (x := k1) (y := k2) rfl).four
      go_wp2_with fail
      refine (STX.out _ HL164.out).mono ?_
      rintro e w173 ⟨rfl, hb174⟩
      have HB175 := Lib.hid (HB162.out.below hb174); have HR176 := Lib.hid (HR163.out.below hb174); have HL177 := Lib.hid (HL164.out.trans (hb174.mono HL164.out.size))
      clear hb174 HB162 HR163 HL164
      clear q165 q166 q167 q168 q169 q170 q171 q172
      obtain ⟨q178, q179, q180, q181⟩ := (HB175.out.get (i := 12) (N := w1.heap.size) (x := a1) (y := a2) rfl).four
      obtain ⟨q182, q183, q184, q185⟩ := (HB175.out.get (i := 0) (N := w160.heap.size) (x := k1) (y := k2) rfl).four
      go_wp2_with fail
      refine (SIA.out _ HL177.out).mono ?_
      rintro e w186 ⟨rfl, hb187⟩
      have HB188 := Lib.hid (HB175.out.below hb187); have HR189 := Lib.hid (HR176.out.below hb187); have HL190 := Lib.hid (HL177.out.trans (hb187.mono HL177.out.size))
      clear hb187 HB175 HR176 HL177
      clear q178 q179 q180 q181 q182 q183 q184 q185
      obtain ⟨q191, q192, q193, q194⟩ := (HB188.out.get (i := 12) (N := w1.heap.size) (x := a1) (y := a2) rfl).four
      obtain ⟨q195, q196, q197, q198⟩ := (HB188.out.get (i := 0) (N := w160.heap.size) (x := k1) (y := k2) rfl).four
      go_wp2_with fail
      go_meet
      exact ⟨by first | rfl | simp [*], HB188.out, HR189.out, HL190.out⟩
    | true => as_aux_lemma =>
      obtain ⟨g1, g2⟩ := Hback.out rfl
      subst g1; subst g2
      obtain ⟨q199, q200, q201, q202⟩ := (HB162.out.get (i := 12) (N := w1.heap.size) (x := k1) (y := k2) rfl).four
      obtain ⟨q203, q204, q205, q206⟩ := (HB162.out.get (i := 0) (N := w160.heap.size) (x := k1) (y := k2) rfl).four
      go_wp2_with fail
      refine (STX.out _ HL164.out).mono ?_
      rintro e w207 ⟨rfl, hb208⟩
      have HB209 := Lib.hid (HB162.out.below hb208); have HR210 := Lib.hid (HR163.out.below hb208); have HL211 := Lib.hid (HL164.out.trans (hb208.mono HL164.out.size))
      clear hb208 HB162 HR163 HL164
      clear q199 q200 q201 q202 q203 q204 q205 q206
      obtain ⟨q212, q213, q214, q215⟩ := (HB209.out.get (i := 12) (N := w1.heap.size) (x := k1) (y := k2) rfl).four
      obtain ⟨q216, q217, q218, q219⟩ := (HB209.out.get (i := 0) (N := w160.heap.size) (x := k1) (y := k2) rfl).four
      go_wp2_with fail
      refine (SIA.out _ HL211.out).mono ?_
      rintro e w220 ⟨rfl, hb221⟩
      have HB222 := Lib.hid (HB209.out.below hb221); have HR223 := Lib.hid (HR210.out.below hb221); have HL224 := Lib.hid (HL211.out.trans (hb221.mono HL211.out.size))
      clear hb221 HB209 HR210 HL211
      clear q212 q213 q214 q215 q216 q217 q218 q219
      obtain ⟨q225, q226, q227, q228⟩ := (HB222.out.get (i := 12) (N := w1.heap.size) (x := k1) (y := k2) rfl).four
      obtain ⟨q229, q230, q231, q232⟩ := (HB222.out.get (i := 0) (N := w160.heap.size) (x := k1) (y := k2) rfl).four
      go_wp2_with fail
      go_meet
      exact ⟨by first | rfl | simp [*], HB222.out, HR223.out, HL224.out⟩
  case rest =>
  obtain ⟨rfl, hB233, hR234, hL235⟩ := hcut
  have HB236 := Lib.hid hB233; have HR237 := Lib.hid hR234; have HL238 := Lib.hid hL235; clear hB233 hR234 hL235
  obtain ⟨w239, hwc⟩ : ∃ W, W = wc := ⟨_, rfl⟩
  subst hwc
  have icb := fun W (hb : Below w.heap.size w W) => impl_CrossNumber b1 b2 a1 a2 W (HE.out.keeps hb)
  simp only [Sl.crossN_swap a1 a2 b1 b2, HN.out] at icb
  have ica := fun W (hb : Below w.heap.size w W) => impl_CrossNumber a1 a2 a1 a2 W (HE.out.keeps hb)
  have ss := fun W (hb : Below w.heap.size w W) => spec_IsSlope s1 s2 W
  have his : okb = true → decide (Sl.Is s1 s2) = true := fun h => by
    have h1 := Sl.of_is (of_decide_eq_true (Hokb.out.trans h))
    rw [Hs.out] at h1
    exact decide_eq_true h1
  have hca : ia = true → Sl.crossN a1 a2 a1 a2 = 0 := fun h => Sl.crossN_self (of_decide_eq_true (Hia.out.trans h))
  obtain ⟨self, hself⟩ : ∃ v, Sl.crossN a1 a2 a1 a2 = v := ⟨_, rfl⟩
  obtain ⟨iss, hiss⟩ : ∃ v, decide (Sl.Is s1 s2) = v := ⟨_, rfl⟩
  simp only [hself] at ica hca
  simp only [hiss] at ss his
  have ICB := Lib.hid icb; have ICA := Lib.hid ica; have SS := Lib.hid ss; have Hiss := Lib.hid his; have Hca := Lib.hid hca
  clear icb ica ss his hca hself hiss
  go_upto_region 24 with fail
  go_cut [237] from 215 to 237 (fun s237 wx => s237 = .bool false ∧ Bs wx [(w160.heap.size, k1, k2), (w101.heap.size, z1, z2), (w88.heap.size, z1, z2), (w75.heap.size, u1, u2), (w62.heap.size, u1, u2), (w49.heap.size + 1, d1, d2), (w49.heap.size, c1, c2), (w44.heap.size, x1, x2), (w39.heap.size, x1, x2), (w29.heap.size, s1, s2), (w24.heap.size, s1, s2), (w1.heap.size + 1, b1, b2), (w1.heap.size, a1, a2)] ∧ Rows wx [(fa, R), (ra, R)] ∧ Below w.heap.size w wx)
  case first =>
    cases ia with
    | false => as_aux_lemma =>
      cases okb with
      | false => as_aux_lemma =>
        obtain ⟨q240, q241, q242, q243⟩ := (HB236.out.get (i := 12) (N := w1.heap.size) (x := a1) (y := a2) rfl).four
        obtain ⟨q244, q245, q246, q247⟩ := (HB236.out.get (i := 11) (N := w1.heap.size + 1) (x := b1) (y := b2) rfl).four
        obtain ⟨q248, q249, q250, q251⟩ := (HB236.out.get (i := 10) (N := w24.heap.size) (x := s1) (y := s2) rfl).four
        as_aux_lemma =>
        go_wp2_with fail
        refine (ICB.out _ HL238.out).mono ?_
        rintro e w252 ⟨rfl, hb253⟩
        have HB254 := Lib.hid (HB236.out.below hb253); have HR255 := Lib.hid (HR237.out.below hb253); have HL256 := Lib.hid (HL238.out.trans (hb253.mono HL238.out.size))
        clear hb253 HB236 HR237 HL238
        clear q240 q241 q242 q243 q244 q245 q246 q247 q248 q249 q250 q251
        obtain ⟨q257, q258, q259, q260⟩ := (HB254.out.get (i := 12) (N := w1.heap.size) (x := a1) (y := a2) rfl).four
        obtain ⟨q261, q262, q263, q264⟩ := (HB254.out.get (i := 11) (N := w1.heap.size + 1) (x := b1) (y := b2) rfl).four
        obtain ⟨q265, q266, q267, q268⟩ := (HB254.out.get (i := 10) (N := w24.heap.size) (x := s1) (y := s2) rfl).four
        go_wp2_with fail
        refine (SIA.out _ HL256.out).mono ?_
        rintro e w269 ⟨rfl, hb270⟩
        have HB271 := Lib.hid (HB254.out.below hb270); have HR272 := Lib.hid (HR255.out.below hb270); have HL273 := Lib.hid (HL256.out.trans (hb270.mono HL256.out.size))
        clear hb270 HB254 HR255 HL256
        clear q257 q258 q259 q260 q261 q262 q263 q264 q265 q266 q267 q268
        go_wp2_with fail
        go_meet
        exact ⟨by first | rfl | simp [*], HB271.out, HR272.out, HL273.out⟩
      | true => as_aux_lemma =>
        have hz2 := Hiss.out rfl
        subst hz2
        obtain ⟨q274, q275, q276, q277⟩ := (HB236.out.get (i := 12) (N := w1.heap.size) (x := a1) (y := a2) rfl).four
        obtain ⟨q278, q279, q280, q281⟩ := (HB236.out.get (i := 11) (N := w1.heap.size + 1) (x := b1) (y := b2) rfl).four
        obtain ⟨q282, q283, q284, q285⟩ := (HB236.out.get (i := 10) (N := w24.heap.size) (x := s1) (y := s2) rfl).four
        as_aux_lemma =>
        go_wp2_with fail
        refine (ICB.out _ HL238.out).mono ?_
        rintro e w286 ⟨rfl, hb287⟩
        have HB288 := Lib.hid (HB236.out.below hb287); have HR289 := Lib.hid (HR237.out.below hb287); have HL290 := Lib.hid (HL238.out.trans (hb287.mono HL238.out.size))
        clear hb287 HB236 HR237 HL238
        clear q274 q275 q276 q277 q278 q279 q280 q281 q282 q283 q284 q285
        obtain ⟨q291, q292, q293, q294⟩ := (HB288.out.get (i := 12) (N := w1.heap.size) (x := a1) (y := a2) rfl).four
        obtain ⟨q295, q296, q297, q298⟩ := (HB288.out.get (i := 11) (N := w1.heap.size + 1) (x := b1) (y := b2) rfl).four
        obtain ⟨q299, q300, q301, q302⟩ := (HB288.out.get (i := 10) (N := w24.heap.size) (x := s1) (y := s2) rfl).four
        go_wp2_with fail
        refine (SIA.out _ HL290.out).mono ?_
        rintro e w303 ⟨rfl, hb304⟩
        have HB305 := Lib.hid (HB288.out.below hb304); have HR306 := Lib.hid (HR289.out.below hb304); have HL307 := Lib.hid (HL290.out.trans (hb304.mono HL290.out.size))
        clear hb304 HB288 HR289 HL290
        clear q291 q292 q293 q294 q295 q296 q297 q298 q299 q300 q301 q302
        obtain ⟨q308, q309, q310, q311⟩ := (HB305.out.get (i := 12) (N := w1.heap.size) (x := a1) (y := a2) rfl).four
        obtain ⟨q312, q313, q314, q315⟩ := (HB305.out.get (i := 11) (N := w1.heap.size + 1) (x := b1) (y := b2) rfl).four
        obtain ⟨q316, q317, q318, q319⟩ := (HB305.out.get (i := 10) (N := w24.heap.size) (x := s1) (y := s2) rfl).four
        go_wp2_with fail
        refine (SS.out _ HL307.out).mono ?_
        rintro e w320 ⟨rfl, hb321⟩
        have HB322 := Lib.hid (HB305.out.below hb321); have HR323 := Lib.hid (HR306.out.below hb321); have HL324 := Lib.hid (HL307.out.trans (hb321.mono HL307.out.size))
        clear hb321 HB305 HR306 HL307
        clear q308 q309 q310 q311 q312 q313 q314 q315 q316 q317 q318 q319
        go_wp2_with fail
        go_meet
        exact ⟨by first | rfl | simp [*], HB322.out, HR323.out, HL324.out⟩
    | true => as_aux_lemma =>
      have hz := Hca.out rfl
      subst hz
      cases okb with
      | false => as_aux_lemma =>
        obtain ⟨q325, q326, q327, q328⟩ := (HB236.out.get (i := 12) (N := w1.heap.size) (x := a1) (y := a2) rfl).four
        obtain ⟨q329, q330, q331, q332⟩ := (HB236.out.get (i := 11) (N := w1.heap.size + 1) (x := b1) (y := b2) rfl).four
        obtain ⟨q333, q334, q335, q336⟩ := (HB236.out.get (i := 10) (N := w24.heap.size) (x := s1) (y := s2) rfl).four
        as_aux_lemma =>
        go_wp2_with fail
        refine (ICB.out _ HL238.out).mono ?_
        rintro e w337 ⟨rfl, hb338⟩
        have HB339 := Lib.hid (HB236.out.below hb338); have HR340 := Lib.hid (HR237.out.below hb338); have HL341 := Lib.hid (HL238.out.trans (hb338.mono HL238.out.size))
        clear hb338 HB236 HR237 HL238
        clear q325 q326 q327 q328 q329 q330 q331 q332 q333 q334 q335 q336
        obtain ⟨q342, q343, q344, q345⟩ := (HB339.out.get (i := 12) (N := w1.heap.size) (x := a1) (y := a2) rfl).four
        obtain ⟨q346, q347, q348, q349⟩ := (HB339.out.get (i := 11) (N := w1.heap.size + 1) (x := b1) (y := b2) rfl).four
        obtain ⟨q350, q351, q352, q353⟩ := (HB339.out.get (i := 10) (N := w24.heap.size) (x := s1) (y := s2) rfl).four
        go_wp2_with fail
        refine (SIA.out _ HL341.out).mono ?_
        rintro e w354 ⟨rfl, hb355⟩
        have HB356 := Lib.hid (HB339.out.below hb355); have HR357 := Lib.hid (HR340.out.below hb355); have HL358 := Lib.hid (HL341.out.trans (hb355.mono HL341.out.size))
        clear hb355 HB339 HR340 HL341
        clear q342 q343 q344 q345 q346 q347 q348 q349 q350 q351 q352 q353
        obtain ⟨q359, q360, q361, q362⟩ := (HB356.out.get (i := 12) (N := w1.heap.size) (x := a1) (y := a2) rfl).four
        obtain ⟨q363, q364, q365, q366⟩ := (HB356.out.get (i := 11) (N := w1.heap.size + 1) (x := b1) (y := b2) rfl).four
        obtain ⟨q367, q368, q369, q370⟩ := (HB356.out.get (i := 10) (N := w24.heap.size) (x := s1) (y := s2) rfl).four
        go_wp2_with fail
        refine (ICA.out _ HL358.out).mono ?_
        rintro e w371 ⟨rfl, hb372⟩
        have HB373 := Lib.hid (HB356.out.below hb372); have HR374 := Lib.hid (HR357.out.below hb372); have HL375 := Lib.hid (HL358.out.trans (hb372.mono HL358.out.size))
        clear hb372 HB356 HR357 HL358
        clear q359 q360 q361 q362 q363 q364 q365 q366 q367 q368 q369 q370
        go_wp2_with fail
        go_meet
        exact ⟨by first | rfl | simp [*], HB373.out, HR374.out, HL375.out⟩
      | true => as_aux_lemma =>
        have hz2 := Hiss.out rfl
        subst hz2
        obtain ⟨q376, q377, q378, q379⟩ := (HB236.out.get (i := 12) (N := w1.heap.size) (x := a1) (y := a2) rfl).four
        obtain ⟨q380, q381, q382, q383⟩ := (HB236.out.get (i := 11) (N := w1.heap.size + 1) (x := b1) (y := b2) rfl).four
        obtain ⟨q384, q385, q386, q387⟩ := (HB236.out.get (i := 10) (N := w24.heap.size) (x := s1) (y := s2) rfl).four
        as_aux_lemma =>
        go_wp2_with fail
        refine (ICB.out _ HL238.out).mono ?_
        rintro e w388 ⟨rfl, hb389⟩
        have HB390 := Lib.hid (HB236.out.below hb389); have HR391 := Lib.hid (HR237.out.below hb389); have HL392 := Lib.hid (HL238.out.trans (hb389.mono HL238.out.size))
        clear hb389 HB236 HR237 HL238
        clear q376 q377 q378 q379 q380 q381 q382 q383 q384 q385 q386 q387
        obtain ⟨q393, q394, q395, q396⟩ := (HB390.out.get (i := 12) (N := w1.heap.size) (x := a1) (y := a2) rfl).four
        obtain ⟨q397, q398, q399, q400⟩ := (HB390.out.get (i := 11) (N := w1.heap.size + 1) (x := b1) (y := b2) rfl).four
        obtain ⟨q401, q402, q403, q404⟩ := (HB390.out.get (i := 10) (N := w24.heap.size) (x := s1) (y := s2) rfl).four
        go_wp2_with fail
        refine (SIA.out _ HL392.out).mono ?_
        rintro e w405 ⟨rfl, hb406⟩
        have HB407 := Lib.hid (HB390.out.below hb406); have HR408 := Lib.hid (HR391.out.below hb406); have HL409 := Lib.hid (HL392.out.trans (hb406.mono HL392.out.size))
        clear hb406 HB390 HR391 HL392
        clear q393 q394 q395 q396 q397 q398 q399 q400 q401 q402 q403 q404
        obtain ⟨q410, q411, q412, q413⟩ := (HB407.out.get (i := 12) (N := w1.heap.size) (x := a1) (y := a2) rfl).four
        obtain ⟨q414, q415, q416, q417⟩ := (HB407.out.get (i := 11) (N := w1.heap.size + 1) (x := b1) (y := b2) rfl).four
        obtain ⟨q418, q419, q420, q421⟩ := (HB407.out.get (i := 10) (N := w24.heap.size) (x := s1) (y := s2) rfl).four
        go_wp2_with fail
        refine (ICA.out _ HL409.out).mono ?_
        rintro e w422 ⟨rfl, hb423⟩
        have HB424 := Lib.hid (HB407.out.below hb423); have HR425 := Lib.hid (HR408.out.below hb423); have HL426 := Lib.hid (HL409.out.trans (hb423.mono HL409.out.size))
        clear hb423 HB407 HR408 HL409
        clear q410 q411 q412 q413 q414 q415 q416 q417 q418 q419 q420 q421
        obtain ⟨q427, q428, q429, q430⟩ := (HB424.out.get (i := 12) (N := w1.heap.size) (x := a1) (y := a2) rfl).four
        obtain ⟨q431, q432, q433, q434⟩ := (HB424.out.get (i := 11) (N := w1.heap.size + 1) (x := b1) (y := b2) rfl).four
        obtain ⟨q435, q436, q437, q438⟩ := (HB424.out.get (i := 10) (N := w24.heap.size) (x := s1) (y := s2) rfl).four
        go_wp2_with fail
        refine (SS.out _ HL426.out).mono ?_
        rintro e w439 ⟨rfl, hb440⟩
        have HB441 := Lib.hid (HB424.out.below hb440); have HR442 := Lib.hid (HR425.out.below hb440); have HL443 := Lib.hid (HL426.out.trans (hb440.mono HL426.out.size))
        clear hb440 HB424 HR425 HL426
        clear q427 q428 q429 q430 q431 q432 q433 q434 q435 q436 q437 q438
        go_wp2_with fail
        go_meet
        exact ⟨by first | rfl | simp [*], HB441.out, HR442.out, HL443.out⟩
  case rest =>
  obtain ⟨rfl, hB444, hR445, hL446⟩ := hcut
  have HB447 := Lib.hid hB444; have HR448 := Lib.hid hR445; have HL449 := Lib.hid hL446; clear hB444 hR445 hL446
  obtain ⟨w450, hwc⟩ : ∃ W, W = wc := ⟨_, rfl⟩
  subst hwc
  have icz := fun W (hb : Below w.heap.size w W) => impl_CrossNumber z1 z2 a1 a2 W (HE.out.keeps hb)
  have icy := fun W (hb : Below w.heap.size w W) => impl_CrossNumber z1 z2 b1 b2 W (HE.out.keeps hb)
  have hsf : five = true → Sl.crossN z1 z2 a1 a2 = 1 ∧ Sl.crossN z1 z2 b1 b2 = 1 := fun h => by
    have h1 := Sl.sum_fact (of_decide_eq_true (Hfive.out.trans h))
    rw [Hz.out] at h1
    exact h1
  obtain ⟨cz, hcz⟩ : ∃ v, Sl.crossN z1 z2 a1 a2 = v := ⟨_, rfl⟩
  obtain ⟨cy, hcy⟩ : ∃ v, Sl.crossN z1 z2 b1 b2 = v := ⟨_, rfl⟩
  simp only [hcz] at icz hsf
  simp only [hcy] at icy hsf
  have ICZ := Lib.hid icz; have ICY := Lib.hid icy; have Hsf := Lib.hid hsf
  clear icz icy hsf hcz hcy
  go_upto_region 26 with fail
  go_cut [250] from 238 to 250 (fun s250 wx => s250 = .bool false ∧ Bs wx [(w160.heap.size, k1, k2), (w101.heap.size, z1, z2), (w88.heap.size, z1, z2), (w75.heap.size, u1, u2), (w62.heap.size, u1, u2), (w49.heap.size + 1, d1, d2), (w49.heap.size, c1, c2), (w44.heap.size, x1, x2), (w39.heap.size, x1, x2), (w29.heap.size, s1, s2), (w24.heap.size, s1, s2), (w1.heap.size + 1, b1, b2), (w1.heap.size, a1, a2)] ∧ Rows wx [(fa, R), (ra, R)] ∧ Below w.heap.size w wx)
  case first =>
    cases five with
    | false => as_aux_lemma =>
      obtain ⟨q451, q452, q453, q454⟩ := (HB447.out.get (i := 12) (N := w1.heap.size) (x := a1) (y := a2) rfl).four
      obtain ⟨q455, q456, q457, q458⟩ := (HB447.out.get (i := 11) (N := w1.heap.size + 1) (x := b1) (y := b2) rfl).four
      obtain ⟨q459, q460, q461, q462⟩ := (HB447.out.get (i := 2) (N := w88.heap.size) (x := z1) (y := z2) rfl).four
      clear q451 q452 q453 q454 q455 q456 q457 q458 q459 q460 q461 q462
      go_wp2_with fail
      go_meet
      exact ⟨by first | rfl | simp [*], HB447.out, HR448.out, HL449.out⟩
    | true => as_aux_lemma =>
      obtain ⟨g1, g2⟩ := Hsf.out rfl
      subst g1; subst g2
      obtain ⟨q463, q464, q465, q466⟩ := (HB447.out.get (i := 12) (N := w1.heap.size) (x := a1) (y := a2) rfl).four
      obtain ⟨q467, q468, q469, q470⟩ := (HB447.out.get (i := 11) (N := w1.heap.size + 1) (x := b1) (y := b2) rfl).four
      obtain ⟨q471, q472, q473, q474⟩ := (HB447.out.get (i := 2) (N := w88.heap.size) (x := z1) (y := z2) rfl).four
      go_wp2_with fail
      refine (ICZ.out _ HL449.out).mono ?_
      rintro e w475 ⟨rfl, hb476⟩
      have HB477 := Lib.hid (HB447.out.below hb476); have HR478 := Lib.hid (HR448.out.below hb476); have HL479 := Lib.hid (HL449.out.trans (hb476.mono HL449.out.size))
      clear hb476 HB447 HR448 HL449
      clear q463 q464 q465 q466 q467 q468 q469 q470 q471 q472 q473 q474
      obtain ⟨q480, q481, q482, q483⟩ := (HB477.out.get (i := 12) (N := w1.heap.size) (x := a1) (y := a2) rfl).four
      obtain ⟨q484, q485, q486, q487⟩ := (HB477.out.get (i := 11) (N := w1.heap.size + 1) (x := b1) (y := b2) rfl).four
      obtain ⟨q488, q489, q490, q491⟩ := (HB477.out.get (i := 2) (N := w88.heap.size) (x := z1) (y := z2) rfl).four
      as_aux_lemma =>
      go_wp2_with fail
      refine (ICY.out _ HL479.out).mono ?_
      rintro e w492 ⟨rfl, hb493⟩
      have HB494 := Lib.hid (HB477.out.below hb493); have HR495 := Lib.hid (HR478.out.below hb493); have HL496 := Lib.hid (HL479.out.trans (hb493.mono HL479.out.size))
      clear hb493 HB477 HR478 HL479
      clear q480 q481 q482 q483 q484 q485 q486 q487 q488 q489 q490 q491
      go_wp2_with fail
      go_meet
      exact ⟨by first | rfl | simp [*], HB494.out, HR495.out, HL496.out⟩
  case rest =>
  obtain ⟨rfl, hB497, hR498, hL499⟩ := hcut
  have HB500 := Lib.hid hB497; have HR501 := Lib.hid hR498; have HL502 := Lib.hid hL499; clear hB497 hR498 hL499
  obtain ⟨w503, hwc⟩ : ∃ W, W = wc := ⟨_, rfl⟩
  subst hwc
  have icu := fun W (hb : Below w.heap.size w W) => impl_CrossNumber c1 c2 u1 u2 W (HE.out.keeps hb)
  have icd := fun W (hb : Below w.heap.size w W) => impl_CrossNumber c1 c2 d1 d2 W (HE.out.keeps hb)
  have icv := fun W (hb : Below w.heap.size w W) => impl_CrossNumber u1 u2 d1 d2 W (HE.out.keeps hb)
  have itz := fun W (hb : Below w.heap.size w W) => impl_TwistSlope c1 c2 d1 d2 0 W (HE.out.keeps hb)
  have htf : three = true → Sl.crossN c1 c2 u1 u2 = Sl.crossN c1 c2 d1 d2 ∧ Sl.crossN u1 u2 d1 d2 = (k.natAbs : Int) * Sl.crossN c1 c2 d1 d2 * Sl.crossN c1 c2 d1 d2 ∧ Sl.twist c1 c2 d1 d2 0 = (d1, d2) ∧ decide (Sl.twOk c1 c2 d1 d2 0) = true ∧ 0 ≤ Sl.crossN c1 c2 d1 d2 ∧ Sl.crossN c1 c2 d1 d2 ≤ 2000000 := fun h => by
    have hok := of_decide_eq_true (Hthree.out.trans h)
    have h1 := Sl.twist_fact hok
    rw [Hu.out] at h1
    have h2 := Sl.twist_zero hok.1.1 hok.1.2.1
    have h3 : Sl.crossN c1 c2 d1 d2 = (((Sl.det c1 c2 d1 d2).natAbs : Nat) : Int) := if_pos ⟨hok.1.1, hok.1.2.1⟩
    have h4 := (Sl.det_abs hok.1.1 hok.1.2.1).2.2
    exact ⟨h1.1, h1.2, h2.2, decide_eq_true h2.1, by omega, by omega⟩
  obtain ⟨U, hU⟩ : ∃ v, Sl.crossN c1 c2 u1 u2 = v := ⟨_, rfl⟩
  obtain ⟨X, hX⟩ : ∃ v, Sl.crossN c1 c2 d1 d2 = v := ⟨_, rfl⟩
  obtain ⟨Y, hY⟩ : ∃ v, Sl.crossN u1 u2 d1 d2 = v := ⟨_, rfl⟩
  obtain ⟨m0, hm0⟩ : ∃ v, Sl.twist c1 c2 d1 d2 0 = v := ⟨_, rfl⟩
  obtain ⟨fine, hfine⟩ : ∃ v, decide (Sl.twOk c1 c2 d1 d2 0) = v := ⟨_, rfl⟩
  simp only [hU] at icu htf
  simp only [hX] at icd htf
  simp only [hY] at icv htf
  simp only [hm0, hfine] at itz htf
  have ICU := Lib.hid icu; have ICD := Lib.hid icd; have ICV := Lib.hid icv; have ITZ := Lib.hid itz; have Htf := Lib.hid htf
  have Hmag := Lib.hid (fun W => (magnitude k W (by have := Hkk.out; omega) (by have := Hkk.out; omega)).mono fun e w' h => (⟨h.1, by rw [h.2]; exact Below.refl _ _⟩ : e = .returned (.int .i64 ((k.natAbs : Nat) : Int)) ∧ Below W.heap.size W w'))
  clear icu icd icv itz htf hU hX hY hm0 hfine
  go_upto_if 251 with fail
  go_cut [35, 36] from 252 (fun _ _ wx => Bs wx [(w160.heap.size, k1, k2), (w101.heap.size, z1, z2), (w88.heap.size, z1, z2), (w75.heap.size, u1, u2), (w62.heap.size, u1, u2), (w49.heap.size + 1, d1, d2), (w49.heap.size, c1, c2), (w44.heap.size, x1, x2), (w39.heap.size, x1, x2), (w29.heap.size, s1, s2), (w24.heap.size, s1, s2), (w1.heap.size + 1, b1, b2), (w1.heap.size, a1, a2)] ∧ Rows wx [(fa, R), (ra, R)] ∧ Below w.heap.size w wx)
  case first =>
    cases three with
    | false => as_aux_lemma =>
      go_wp2_with fail
      go_meet
      exact ⟨HB500.out, HR501.out, HL502.out⟩
    | true => as_aux_lemma =>
      obtain ⟨g1, g2, g3, g4, g5, g6⟩ := Htf.out rfl
      subst g1; subst g3; subst g4
      obtain ⟨M, hM⟩ : ∃ M : Nat, k.natAbs = M := ⟨_, rfl⟩
      have hM21 : M ≤ 21 := by have := Hkk.out; omega
      rw [hM] at Hmag g2
      obtain ⟨X0, hX0⟩ : ∃ X0 : Nat, U = (X0 : Int) := ⟨U.toNat, by omega⟩
      subst hX0
      have hq1 : M * X0 ≤ 21 * 2000000 := Nat.mul_le_mul hM21 (by omega)
      have hq2 : M * X0 * X0 ≤ 21 * 2000000 * 2000000 := Nat.mul_le_mul hq1 (by omega)
      have w1 : IntKind.i64.wrap ((M : Int) * (X0 : Int)) = ((M * X0 : Nat) : Int) := by rw [← Int.natCast_mul]; exact wrap_small (by omega) (by omega)
      have w2 : IntKind.i64.wrap (((M * X0 : Nat) : Int) * (X0 : Int)) = Y := by rw [g2, ← Int.natCast_mul, ← Int.natCast_mul]; exact wrap_small (by omega) (by omega)
      have Hg2 := Lib.hid g2
      clear g2 g5 g6 hM hM21 hq1 hq2
      generalize M * X0 = MX at *
      obtain ⟨q504, q505, q506, q507⟩ := (HB500.out.get (i := 6) (N := w49.heap.size) (x := c1) (y := c2) rfl).four
      obtain ⟨q508, q509, q510, q511⟩ := (HB500.out.get (i := 5) (N := w49.heap.size + 1) (x := d1) (y := d2) rfl).four
      go_wp2_with fail
      refine (ITZ.out _ HL502.out).mono ?_
      rintro e w512 ⟨rfl, hb513⟩
      have HB514 := Lib.hid (Bs.push (HB500.out.below hb513) d1 d2); have HR515 := Lib.hid (Rows.push (HR501.out.below hb513) d1 d2); have HL516 := Lib.hid (below_push (HL502.out.trans (hb513.mono HL502.out.size)) d1 d2)
      clear hb513 HB500 HR501 HL502
      go_upto_region 30 with fail
      clear q504 q505 q506 q507 q508 q509 q510 q511
      have Hmk := Lib.hid (fun (V : World) (h : Below (w512.alloc (.cells #[.int .i64 d1, .int .i64 d2] 44)).heap.size (w512.alloc (.cells #[.int .i64 d1, .int .i64 d2] 44)) V) => show V.cell? ⟨w49.heap.size, 0, none⟩ = some (.int .i64 c1) ∧ V.cell? ⟨w49.heap.size, 1, none⟩ = some (.int .i64 c2) ∧ V.cell? ⟨w49.heap.size + 1, 0, none⟩ = some (.int .i64 d1) ∧ V.cell? ⟨w49.heap.size + 1, 1, none⟩ = some (.int .i64 d2) ∧ V.cell? ⟨w62.heap.size, 0, none⟩ = some (.int .i64 u1) ∧ V.cell? ⟨w62.heap.size, 1, none⟩ = some (.int .i64 u2) ∧ V.cell? ⟨w512.heap.size, 0, none⟩ = some (.int .i64 d1) ∧ V.cell? ⟨w512.heap.size, 1, none⟩ = some (.int .i64 d2) ∧ Below (w512.alloc (.cells #[.int .i64 d1, .int .i64 d2] 44)).heap.size (w512.alloc (.cells #[.int .i64 d1, .int .i64 d2] 44)) V from ⟨((HB514.out.below h).get (i := 7) (N := w49.heap.size) (x := c1) (y := c2) rfl).cell 0, ((HB514.out.below h).get (i := 7) (N := w49.heap.size) (x := c1) (y := c2) rfl).cell 1, ((HB514.out.below h).get (i := 6) (N := w49.heap.size + 1) (x := d1) (y := d2) rfl).cell 0, ((HB514.out.below h).get (i := 6) (N := w49.heap.size + 1) (x := d1) (y := d2) rfl).cell 1, ((HB514.out.below h).get (i := 5) (N := w62.heap.size) (x := u1) (y := u2) rfl).cell 0, ((HB514.out.below h).get (i := 5) (N := w62.heap.size) (x := u1) (y := u2) rfl).cell 1, ((HB514.out.below h).get (i := 0) (N := w512.heap.size) (x := d1) (y := d2) rfl).cell 0, ((HB514.out.below h).get (i := 0) (N := w512.heap.size) (x := d1) (y := d2) rfl).cell 1, h⟩)
      have Hpr := Lib.hid (fun (V : World) (h : V.cell? ⟨w49.heap.size, 0, none⟩ = some (.int .i64 c1) ∧ V.cell? ⟨w49.heap.size, 1, none⟩ = some (.int .i64 c2) ∧ V.cell? ⟨w49.heap.size + 1, 0, none⟩ = some (.int .i64 d1) ∧ V.cell? ⟨w49.heap.size + 1, 1, none⟩ = some (.int .i64 d2) ∧ V.cell? ⟨w62.heap.size, 0, none⟩ = some (.int .i64 u1) ∧ V.cell? ⟨w62.heap.size, 1, none⟩ = some (.int .i64 u2) ∧ V.cell? ⟨w512.heap.size, 0, none⟩ = some (.int .i64 d1) ∧ V.cell? ⟨w512.heap.size, 1, none⟩ = some (.int .i64 d2) ∧ Below (w512.alloc (.cells #[.int .i64 d1, .int .i64 d2] 44)).heap.size (w512.alloc (.cells #[.int .i64 d1, .int .i64 d2] 44)) V) => show Below (w512.alloc (.cells #[.int .i64 d1, .int .i64 d2] 44)).heap.size (w512.alloc (.cells #[.int .i64 d1, .int .i64 d2] 44)) V from h.2.2.2.2.2.2.2.2)
      have Hch := Lib.hid (fun (V : World) (h : Below (w512.alloc (.cells #[.int .i64 d1, .int .i64 d2] 44)).heap.size (w512.alloc (.cells #[.int .i64 d1, .int .i64 d2] 44)) V) => show Below w.heap.size w V from HL516.out.trans (h.mono HL516.out.size))
      try simp only [List.append_eq, List.cons_append, List.nil_append]
      refine held_begin (S := fun w' => w'.cell? ⟨w49.heap.size, 0, none⟩ = some (.int .i64 c1) ∧ w'.cell? ⟨w49.heap.size, 1, none⟩ = some (.int .i64 c2) ∧ w'.cell? ⟨w49.heap.size + 1, 0, none⟩ = some (.int .i64 d1) ∧ w'.cell? ⟨w49.heap.size + 1, 1, none⟩ = some (.int .i64 d2) ∧ w'.cell? ⟨w62.heap.size, 0, none⟩ = some (.int .i64 u1) ∧ w'.cell? ⟨w62.heap.size, 1, none⟩ = some (.int .i64 u2) ∧ w'.cell? ⟨w512.heap.size, 0, none⟩ = some (.int .i64 d1) ∧ w'.cell? ⟨w512.heap.size, 1, none⟩ = some (.int .i64 d2) ∧ Below (w512.alloc (.cells #[.int .i64 d1, .int .i64 d2] 44)).heap.size (w512.alloc (.cells #[.int .i64 d1, .int .i64 d2] 44)) w') 32 (by kernel_rfl) rfl ?_ (fun hHeld => ?_)
      · exact Hmk.out _ (Below.drew (Below.refl _ _))
      try simp only [Array.replicate]
      refine held_take (i := 0) (v := ?_) rfl (by as_aux_lemma => kernel_rfl) (fun _ _ _ h => h) (by rfl) ?_ hHeld ?_
      rotate_left; · (intro w' hSw; go_split_ands; go_simp; try with_reducible rfl)
      try simp only [Act.put, List.setIfInBounds_toArray, List.set_cons_zero, List.set_cons_succ]
      refine held_take (i := 1) (v := ?_) rfl (by as_aux_lemma => kernel_rfl) (fun _ _ _ h => h) (by rfl) ?_ hHeld ?_
      rotate_left; · (intro w' hSw; go_split_ands; go_simp; try with_reducible rfl)
      try simp only [Act.put, List.setIfInBounds_toArray, List.set_cons_zero, List.set_cons_succ]
      refine held_take (i := 3) (v := ?_) rfl (by as_aux_lemma => kernel_rfl) (fun _ _ _ h => h) (by rfl) ?_ hHeld ?_
      rotate_left; · (intro w' hSw; go_split_ands; go_simp; try with_reducible rfl)
      try simp only [Act.put, List.setIfInBounds_toArray, List.set_cons_zero, List.set_cons_succ]
      refine held_take (i := 4) (v := ?_) rfl (by as_aux_lemma => kernel_rfl) (fun _ _ _ h => h) (by rfl) ?_ hHeld ?_
      rotate_left; · (intro w' hSw; go_split_ands; go_simp; try with_reducible rfl)
      try simp only [Act.put, List.setIfInBounds_toArray, List.set_cons_zero, List.set_cons_succ]
      refine held_one (i := 2) rfl (by as_aux_lemma => kernel_rfl) (fun K hK => ?_)
      go_simp
      go_at_call 39
      refine (ICU.out _ (Hch.out _ (Hpr.out _ hHeld))).mono ?_
      rintro e v517 ⟨rfl, hb518⟩
      have hS519 := Hmk.out _ ((Hpr.out _ hHeld).trans (hb518.mono (Hpr.out _ hHeld).size))
      clear hb518 hHeld
      go_simp
      refine hK.out _ _ hS519 (fun hHeld520 => ?_)
      clear hK K hS519
      try simp only [Act.put, List.setIfInBounds_toArray, List.set_cons_zero, List.set_cons_succ]
      refine held_one (i := 5) rfl (by as_aux_lemma => kernel_rfl) (fun K hK => ?_)
      go_simp
      go_at_call 39
      refine (ICD.out _ (Hch.out _ (Hpr.out _ hHeld520))).mono ?_
      rintro e v521 ⟨rfl, hb522⟩
      have hS523 := Hmk.out _ ((Hpr.out _ hHeld520).trans (hb522.mono (Hpr.out _ hHeld520).size))
      clear hb522 hHeld520
      go_simp
      refine hK.out _ _ hS523 (fun hHeld524 => ?_)
      clear hK K hS523
      try simp only [Act.put, List.setIfInBounds_toArray, List.set_cons_zero, List.set_cons_succ]
      refine held_take (i := 6) (v := ?_) rfl (by as_aux_lemma => kernel_rfl) (fun _ _ _ h => h) (by rfl) ?_ hHeld524 ?_
      rotate_left; · (intro w' _; go_simp; try with_reducible rfl)
      try simp only [Act.put, List.setIfInBounds_toArray, List.set_cons_zero, List.set_cons_succ]
      refine held_take (i := 7) (v := ?_) rfl (by as_aux_lemma => kernel_rfl) (fun _ _ _ h => h) (by rfl) ?_ hHeld524 ?_
      rotate_left; · (intro w' _; go_simp; try with_reducible rfl)
      try simp only [Act.put, List.setIfInBounds_toArray, List.set_cons_zero, List.set_cons_succ]
      refine held_take (i := 8) (v := ?_) rfl (by as_aux_lemma => kernel_rfl) (fun _ _ _ h => h) (by rfl) ?_ hHeld524 ?_
      rotate_left; · (intro w' _; go_simp; try with_reducible rfl)
      try simp only [Act.put, List.setIfInBounds_toArray, List.set_cons_zero, List.set_cons_succ]
      refine held_take (i := 9) (v := ?_) rfl (by as_aux_lemma => kernel_rfl) (fun _ _ _ h => h) (by rfl) ?_ hHeld524 ?_
      rotate_left; · (intro w' _; go_simp; try with_reducible rfl)
      try simp only [Act.put, List.setIfInBounds_toArray, List.set_cons_zero, List.set_cons_succ]
      refine held_take (i := 10) (v := ?_) rfl (by as_aux_lemma => kernel_rfl) (fun _ _ _ h => h) (by rfl) ?_ hHeld524 ?_
      rotate_left; · (intro w' _; go_simp; try with_reducible rfl)
      try simp only [Act.put, List.setIfInBounds_toArray, List.set_cons_zero, List.set_cons_succ]
      as_aux_lemma =>
      refine held_take (i := 11) (v := ?_) rfl (by as_aux_lemma => kernel_rfl) (fun _ _ _ h => h) (by rfl) ?_ hHeld524 ?_
      rotate_left; · (intro w' _; go_simp; try with_reducible rfl)
      try simp only [Act.put, List.setIfInBounds_toArray, List.set_cons_zero, List.set_cons_succ]
      refine held_take (i := 12) (v := ?_) rfl (by as_aux_lemma => kernel_rfl) (fun _ _ _ h => h) (by rfl) ?_ hHeld524 ?_
      rotate_left; · (intro w' hSw; go_split_ands; go_simp; try with_reducible rfl)
      try simp only [Act.put, List.setIfInBounds_toArray, List.set_cons_zero, List.set_cons_succ]
      refine held_take (i := 13) (v := ?_) rfl (by as_aux_lemma => kernel_rfl) (fun _ _ _ h => h) (by rfl) ?_ hHeld524 ?_
      rotate_left; · (intro w' hSw; go_split_ands; go_simp; try with_reducible rfl)
      try simp only [Act.put, List.setIfInBounds_toArray, List.set_cons_zero, List.set_cons_succ]
      refine held_take (i := 14) (v := ?_) rfl (by as_aux_lemma => kernel_rfl) (fun _ _ _ h => h) (by rfl) ?_ hHeld524 ?_
      rotate_left; · (intro w' _; go_simp; try with_reducible rfl)
      try simp only [Act.put, List.setIfInBounds_toArray, List.set_cons_zero, List.set_cons_succ]
      refine held_take (i := 15) (v := ?_) rfl (by as_aux_lemma => kernel_rfl) (fun _ _ _ h => h) (by rfl) ?_ hHeld524 ?_
      rotate_left; · (intro w' _; go_simp; try with_reducible rfl)
      try simp only [Act.put, List.setIfInBounds_toArray, List.set_cons_zero, List.set_cons_succ]
      refine held_take (i := 16) (v := ?_) rfl (by as_aux_lemma => kernel_rfl) (fun _ _ _ h => h) (by rfl) ?_ hHeld524 ?_
      rotate_left; · (intro w' _; go_simp; try with_reducible rfl)
      try simp only [Act.put, List.setIfInBounds_toArray, List.set_cons_zero, List.set_cons_succ]
      refine held_take (i := 17) (v := ?_) rfl (by as_aux_lemma => kernel_rfl) (fun _ _ _ h => h) (by rfl) ?_ hHeld524 ?_
      rotate_left; · (intro w' hSw; go_split_ands; go_simp; try with_reducible rfl)
      try simp only [Act.put, List.setIfInBounds_toArray, List.set_cons_zero, List.set_cons_succ]
      refine held_take (i := 18) (v := ?_) rfl (by as_aux_lemma => kernel_rfl) (fun _ _ _ h => h) (by rfl) ?_ hHeld524 ?_
      rotate_left; · (intro w' hSw; go_split_ands; go_simp; try with_reducible rfl)
      try simp only [Act.put, List.setIfInBounds_toArray, List.set_cons_zero, List.set_cons_succ]
      refine held_take (i := 20) (v := ?_) rfl (by as_aux_lemma => kernel_rfl) (fun _ _ _ h => h) (by rfl) ?_ hHeld524 ?_
      rotate_left; · (intro w' _; go_simp; try with_reducible rfl)
      try simp only [Act.put, List.setIfInBounds_toArray, List.set_cons_zero, List.set_cons_succ]
      refine held_take (i := 22) (v := ?_) rfl (by as_aux_lemma => kernel_rfl) (fun _ _ _ h => h) (by rfl) ?_ hHeld524 ?_
      rotate_left; · (intro w' hSw; go_split_ands; go_simp; try with_reducible rfl)
      try simp only [Act.put, List.setIfInBounds_toArray, List.set_cons_zero, List.set_cons_succ]
      refine held_take (i := 23) (v := ?_) rfl (by as_aux_lemma => kernel_rfl) (fun _ _ _ h => h) (by rfl) ?_ hHeld524 ?_
      rotate_left; · (intro w' hSw; go_split_ands; go_simp; try with_reducible rfl)
      try simp only [Act.put, List.setIfInBounds_toArray, List.set_cons_zero, List.set_cons_succ]
      refine held_take (i := 26) (v := ?_) rfl (by as_aux_lemma => kernel_rfl) (fun _ _ _ h => h) (by rfl) ?_ hHeld524 ?_
      rotate_left; · (intro w' hSw; go_split_ands; go_simp; try with_reducible rfl)
      try simp only [Act.put, List.setIfInBounds_toArray, List.set_cons_zero, List.set_cons_succ]
      as_aux_lemma =>
      refine held_take (i := 27) (v := ?_) rfl (by as_aux_lemma => kernel_rfl) (fun _ _ _ h => h) (by rfl) ?_ hHeld524 ?_
      rotate_left; · (intro w' hSw; go_split_ands; go_simp; try with_reducible rfl)
      try simp only [Act.put, List.setIfInBounds_toArray, List.set_cons_zero, List.set_cons_succ]
      refine held_one (i := 19) rfl (by as_aux_lemma => kernel_rfl) (fun K hK => ?_)
      go_simp
      go_at_call 39
      refine (ICV.out _ (Hch.out _ (Hpr.out _ hHeld524))).mono ?_
      rintro e v525 ⟨rfl, hb526⟩
      have hS527 := Hmk.out _ ((Hpr.out _ hHeld524).trans (hb526.mono (Hpr.out _ hHeld524).size))
      clear hb526 hHeld524
      go_simp
      refine hK.out _ _ hS527 (fun hHeld528 => ?_)
      clear hK K hS527
      try simp only [Act.put, List.setIfInBounds_toArray, List.set_cons_zero, List.set_cons_succ]
      refine held_one (i := 21) rfl (by as_aux_lemma => kernel_rfl) (fun K hK => ?_)
      go_simp
      go_at_call 59
      refine (Hmag.out _).mono ?_
      rintro e v529 ⟨rfl, hb530⟩
      have hS531 := Hmk.out _ ((Hpr.out _ hHeld528).trans (hb530.mono (Hpr.out _ hHeld528).size))
      clear hb530 hHeld528
      go_simp
      refine hK.out _ _ hS531 (fun hHeld532 => ?_)
      clear hK K hS531
      try simp only [Act.put, List.setIfInBounds_toArray, List.set_cons_zero, List.set_cons_succ]
      refine held_one (i := 24) rfl (by as_aux_lemma => kernel_rfl) (fun K hK => ?_)
      go_simp
      go_at_call 39
      refine (ICD.out _ (Hch.out _ (Hpr.out _ hHeld532))).mono ?_
      rintro e v533 ⟨rfl, hb534⟩
      have hS535 := Hmk.out _ ((Hpr.out _ hHeld532).trans (hb534.mono (Hpr.out _ hHeld532).size))
      clear hb534 hHeld532
      go_simp
      refine hK.out _ _ hS535 (fun hHeld536 => ?_)
      clear hK K hS535
      try simp only [Act.put, List.setIfInBounds_toArray, List.set_cons_zero, List.set_cons_succ]
      refine held_take (i := 25) (v := ?_) rfl (by as_aux_lemma => kernel_rfl) (fun _ _ _ h => h) (by rfl) ?_ hHeld536 ?_
      rotate_left; · (intro w' _; go_simp; try with_reducible rfl)
      try simp only [Act.put, List.setIfInBounds_toArray, List.set_cons_zero, List.set_cons_succ]
      refine held_one (i := 28) rfl (by as_aux_lemma => kernel_rfl) (fun K hK => ?_)
      go_simp
      go_at_call 39
      refine (ICD.out _ (Hch.out _ (Hpr.out _ hHeld536))).mono ?_
      rintro e v537 ⟨rfl, hb538⟩
      have hS539 := Hmk.out _ ((Hpr.out _ hHeld536).trans (hb538.mono (Hpr.out _ hHeld536).size))
      clear hb538 hHeld536
      go_simp
      refine hK.out _ _ hS539 (fun hHeld540 => ?_)
      clear hK K hS539
      try simp only [Act.put, List.setIfInBounds_toArray, List.set_cons_zero, List.set_cons_succ]
      refine held_take (i := 29) (v := ?_) rfl (by as_aux_lemma => kernel_rfl) (fun _ _ _ h => h) (by rfl) ?_ hHeld540 ?_
      rotate_left; · (intro w' _; go_simp; try with_reducible rfl)
      try simp only [Act.put, List.setIfInBounds_toArray, List.set_cons_zero, List.set_cons_succ]
      refine held_take (i := 30) (v := ?_) rfl (by as_aux_lemma => kernel_rfl) (fun _ _ _ h => h) (by rfl) ?_ hHeld540 ?_
      rotate_left; · (intro w' _; go_simp; try with_reducible rfl)
      try simp only [Act.put, List.setIfInBounds_toArray, List.set_cons_zero, List.set_cons_succ]
      refine held_take (i := 31) (v := ?_) rfl (by as_aux_lemma => kernel_rfl) (fun _ _ _ h => h) (by rfl) ?_ hHeld540 ?_
      rotate_left; · (intro w' _; go_simp; try with_reducible rfl)
      try simp only [Act.put, List.setIfInBounds_toArray, List.set_cons_zero, List.set_cons_succ]
      refine held_done (by as_aux_lemma => kernel_rfl) ?_
      go_wp2_with fail
      go_meet
      exact ⟨(HB514.out.below (Hpr.out _ hHeld540)).tail, HR515.out.below (Hpr.out _ hHeld540), Hch.out _ (Hpr.out _ hHeld540)⟩
  obtain ⟨hB9, hR9, hL9⟩ := hcut
  have HB9 := Lib.hid hB9; have HR9 := Lib.hid hR9; have HL9 := Lib.hid hL9; clear hB9 hR9 hL9
  obtain ⟨w9, hwc⟩ : ∃ W, W = wc := ⟨_, rfl⟩
  subst hwc
  cases seven with
  | false => as_aux_lemma =>
    go_wp2
    go_ret
    exact ⟨rfl, HL9.out⟩
  | true => as_aux_lemma =>
    have hok := of_decide_eq_true Hseven.out
    obtain ⟨r, hr, hrl⟩ := word_row hok
    have hcl := Sl.word_core hok
    have hwl := Sl.word_len hok
    have hIs := hok.1
    rw [HR.out] at hr hcl hwl
    rw [Hn.out] at hwl
    obtain ⟨M1, hM1⟩ : ∃ M1 : Nat, a1.natAbs = M1 := ⟨_, rfl⟩
    have hb1 := hIs.abs
    have hy0 := hIs.2.1.1
    have hlen : a2 + (M1 : Int) = (n : Int) := by have h := hwl; unfold Sl.len at h; omega
    have wl : IntKind.i64.wrap (a2 + (M1 : Int)) = (n : Int) := by rw [hlen]; exact wrap_small (by have := Hn24.out; omega) (by have := Hn24.out; omega)
    have Hmag := Lib.hid (fun W => (magnitude a1 W (by omega) (by omega)).mono fun e w' h => (⟨by rw [h.1, hM1], by rw [h.2]; exact Below.refl _ _⟩ : e = .returned (.int .i64 (M1 : Int)) ∧ Below W.heap.size W w'))
    have Hsum := Lib.hid (fun W (h : RowAt W ra (intCells R)) => (spec_LetterSums ra rc R W h (by have := Hn24.out; have := Hn.out; omega)).mono fun e w' (h2 : Gives W (Word.sumsOf R) e w') => (show ∃ a c, e = .returned (.slice a 8 c) ∧ RowAt w' a (intCells (a2 :: a1 :: r)) ∧ Below W.heap.size W w' from by obtain ⟨a, c, he, _, _, hf, hb⟩ := h2; exact ⟨a, c, by rw [he, hr]; simp [hrl], by rw [← hr]; exact hf.row, hb⟩))
    have Hcor := Lib.hid (fun W (h : RowAt W ra (intCells R)) => (spec_CoreWord ra rc R W h (by have := Hn24.out; have := Hn.out; omega)).mono fun e w' (h2 : Gives W (Word.coreOf R) e w') => (show ∃ a c, e = .returned (.slice a n c) ∧ Below W.heap.size W w' from by obtain ⟨a, c, he, _, _, _, hb⟩ := h2; exact ⟨a, c, by rw [he, hcl, ← hwl], hb⟩))
    simp only [Hn.out] at Hsum Hcor
    clear hok hr hcl hwl hIs hM1 hb1 hy0 hlen
    go_wp2_with fail
    refine (Hsum.out _ (HR9.out.get ra R (by simp))).mono ?_
    rintro e w541 ⟨sa, sc, rfl, hrow, hb542⟩
    have HB543 := Lib.hid (HB9.out.below hb542); have HR544 := Lib.hid (Rows.cons (HR9.out.below hb542) hrow); have HL545 := Lib.hid (HL9.out.trans (hb542.mono HL9.out.size))
    clear hb542 HB9 HR9 HL9 hrow
    have hsr := HR544.out.get sa (a2 :: a1 :: r) (by simp)
    obtain ⟨g0, o0, hg0, hgl, hc0⟩ := intCells_at hsr (i := 0) (by simp)
    obtain ⟨g1, o1, hg1, _, hc1⟩ := intCells_at hsr (i := 1) (by simp)
    subst hg0
    cases hg1
    have HC0 := Lib.hid (show w541.cell? ⟨g0, o0, none⟩ = some (.int .i64 a2) from hc0)
    have HC1 := Lib.hid (show w541.cell? ⟨g0, o0 + 1, none⟩ = some (.int .i64 a1) from hc1)
    have Hgl := Lib.hid hgl
    clear hsr hc0 hc1 hgl
    go_upto_region 35 with fail
    have Hmk := Lib.hid (fun (V : World) (h : Below w541.heap.size w541 V) => show V.cell? ⟨w1.heap.size, 0, none⟩ = some (.int .i64 a1) ∧ V.cell? ⟨w1.heap.size, 1, none⟩ = some (.int .i64 a2) ∧ V.cell? ⟨g0, o0, none⟩ = some (.int .i64 a2) ∧ V.cell? ⟨g0, o0 + 1, none⟩ = some (.int .i64 a1) ∧ Below w541.heap.size w541 V from ⟨((HB543.out.below h).get (i := 12) (N := w1.heap.size) (x := a1) (y := a2) rfl).cell 0, ((HB543.out.below h).get (i := 12) (N := w1.heap.size) (x := a1) (y := a2) rfl).cell 1, by rw [h.cell (p := ⟨g0, o0, none⟩) Hgl.out]; exact HC0.out, by rw [h.cell (p := ⟨g0, o0 + 1, none⟩) Hgl.out]; exact HC1.out, h⟩)
    have Hpr := Lib.hid (fun (V : World) (h : V.cell? ⟨w1.heap.size, 0, none⟩ = some (.int .i64 a1) ∧ V.cell? ⟨w1.heap.size, 1, none⟩ = some (.int .i64 a2) ∧ V.cell? ⟨g0, o0, none⟩ = some (.int .i64 a2) ∧ V.cell? ⟨g0, o0 + 1, none⟩ = some (.int .i64 a1) ∧ Below w541.heap.size w541 V) => show Below w541.heap.size w541 V from h.2.2.2.2)
    have Hch := Lib.hid (fun (V : World) (h : Below w541.heap.size w541 V) => show Below w.heap.size w V from HL545.out.trans (h.mono HL545.out.size))
    try simp only [List.append_eq, List.cons_append, List.nil_append]
    refine held_begin (S := fun w' => w'.cell? ⟨w1.heap.size, 0, none⟩ = some (.int .i64 a1) ∧ w'.cell? ⟨w1.heap.size, 1, none⟩ = some (.int .i64 a2) ∧ w'.cell? ⟨g0, o0, none⟩ = some (.int .i64 a2) ∧ w'.cell? ⟨g0, o0 + 1, none⟩ = some (.int .i64 a1) ∧ Below w541.heap.size w541 w') 34 (by kernel_rfl) rfl ?_ (fun hHeld => ?_)
    · exact Hmk.out _ (Below.drew (Below.refl _ _))
    try simp only [Array.replicate]
    refine held_take (i := 0) (v := ?_) rfl (by as_aux_lemma => kernel_rfl) (fun _ _ _ h => h) (by rfl) ?_ hHeld ?_
    rotate_left; · (intro w' _; go_simp; try with_reducible rfl)
    try simp only [Act.put, List.setIfInBounds_toArray, List.set_cons_zero, List.set_cons_succ]
    refine held_take (i := 1) (v := ?_) rfl (by as_aux_lemma => kernel_rfl) (fun _ _ _ h => h) (by rfl) ?_ hHeld ?_
    rotate_left; · (intro w' _; go_simp; try with_reducible rfl)
    try simp only [Act.put, List.setIfInBounds_toArray, List.set_cons_zero, List.set_cons_succ]
    refine held_take (i := 2) (v := ?_) rfl (by as_aux_lemma => kernel_rfl) (fun _ _ _ h => h) (by rfl) ?_ hHeld ?_
    rotate_left; · (intro w' hSw; go_split_ands; go_simp; try with_reducible rfl)
    try simp only [Act.put, List.setIfInBounds_toArray, List.set_cons_zero, List.set_cons_succ]
    refine held_take (i := 3) (v := ?_) rfl (by as_aux_lemma => kernel_rfl) (fun _ _ _ h => h) (by rfl) ?_ hHeld ?_
    rotate_left; · (intro w' _; go_simp; try with_reducible rfl)
    try simp only [Act.put, List.setIfInBounds_toArray, List.set_cons_zero, List.set_cons_succ]
    refine held_take (i := 4) (v := ?_) rfl (by as_aux_lemma => kernel_rfl) (fun _ _ _ h => h) (by rfl) ?_ hHeld ?_
    rotate_left; · (intro w' hSw; go_split_ands; go_simp; try with_reducible rfl)
    try simp only [Act.put, List.setIfInBounds_toArray, List.set_cons_zero, List.set_cons_succ]
    refine held_take (i := 5) (v := ?_) rfl (by as_aux_lemma => kernel_rfl) (fun _ _ _ h => h) (by rfl) ?_ hHeld ?_
    rotate_left; · (intro w' _; go_simp; try with_reducible rfl)
    try simp only [Act.put, List.setIfInBounds_toArray, List.set_cons_zero, List.set_cons_succ]
    refine held_take (i := 6) (v := ?_) rfl (by as_aux_lemma => kernel_rfl) (fun _ _ _ h => h) (by rfl) ?_ hHeld ?_
    rotate_left; · (intro w' _; go_simp; try with_reducible rfl)
    try simp only [Act.put, List.setIfInBounds_toArray, List.set_cons_zero, List.set_cons_succ]
    refine held_take (i := 7) (v := ?_) rfl (by as_aux_lemma => kernel_rfl) (fun _ _ _ h => h) (by rfl) ?_ hHeld ?_
    rotate_left; · (intro w' _; go_simp; try with_reducible rfl)
    try simp only [Act.put, List.setIfInBounds_toArray, List.set_cons_zero, List.set_cons_succ]
    refine held_take (i := 8) (v := ?_) rfl (by as_aux_lemma => kernel_rfl) (fun _ _ _ h => h) (by rfl) ?_ hHeld ?_
    rotate_left; · (intro w' _; go_simp; try with_reducible rfl)
    try simp only [Act.put, List.setIfInBounds_toArray, List.set_cons_zero, List.set_cons_succ]
    refine held_take (i := 9) (v := ?_) rfl (by as_aux_lemma => kernel_rfl) (fun _ _ _ h => h) (by rfl) ?_ hHeld ?_
    rotate_left; · (intro w' hSw; go_split_ands; go_simp; try with_reducible rfl)
    try simp only [Act.put, List.setIfInBounds_toArray, List.set_cons_zero, List.set_cons_succ]
    refine held_take (i := 10) (v := ?_) rfl (by as_aux_lemma => kernel_rfl) (fun _ _ _ h => h) (by rfl) ?_ hHeld ?_
    rotate_left; · (intro w' _; go_simp; try with_reducible rfl)
    try simp only [Act.put, List.setIfInBounds_toArray, List.set_cons_zero, List.set_cons_succ]
    as_aux_lemma =>
    refine held_take (i := 11) (v := ?_) rfl (by as_aux_lemma => kernel_rfl) (fun _ _ _ h => h) (by rfl) ?_ hHeld ?_
    rotate_left; · (intro w' hSw; go_split_ands; go_simp; try with_reducible rfl)
    try simp only [Act.put, List.setIfInBounds_toArray, List.set_cons_zero, List.set_cons_succ]
    refine held_take (i := 12) (v := ?_) rfl (by as_aux_lemma => kernel_rfl) (fun _ _ _ h => h) (by rfl) ?_ hHeld ?_
    rotate_left; · (intro w' _; go_simp; try with_reducible rfl)
    try simp only [Act.put, List.setIfInBounds_toArray, List.set_cons_zero, List.set_cons_succ]
    refine held_take (i := 13) (v := ?_) rfl (by as_aux_lemma => kernel_rfl) (fun _ _ _ h => h) (by rfl) ?_ hHeld ?_
    rotate_left; · (intro w' _; go_simp; try with_reducible rfl)
    try simp only [Act.put, List.setIfInBounds_toArray, List.set_cons_zero, List.set_cons_succ]
    refine held_take (i := 14) (v := ?_) rfl (by as_aux_lemma => kernel_rfl) (fun _ _ _ h => h) (by rfl) ?_ hHeld ?_
    rotate_left; · (intro w' _; go_simp; try with_reducible rfl)
    try simp only [Act.put, List.setIfInBounds_toArray, List.set_cons_zero, List.set_cons_succ]
    refine held_take (i := 15) (v := ?_) rfl (by as_aux_lemma => kernel_rfl) (fun _ _ _ h => h) (by rfl) ?_ hHeld ?_
    rotate_left; · (intro w' _; go_simp; try with_reducible rfl)
    try simp only [Act.put, List.setIfInBounds_toArray, List.set_cons_zero, List.set_cons_succ]
    refine held_take (i := 16) (v := ?_) rfl (by as_aux_lemma => kernel_rfl) (fun _ _ _ h => h) (by rfl) ?_ hHeld ?_
    rotate_left; · (intro w' _; go_simp; try with_reducible rfl)
    try simp only [Act.put, List.setIfInBounds_toArray, List.set_cons_zero, List.set_cons_succ]
    refine held_take (i := 17) (v := ?_) rfl (by as_aux_lemma => kernel_rfl) (fun _ _ _ h => h) (by rfl) ?_ hHeld ?_
    rotate_left; · (intro w' _; go_simp; try with_reducible rfl)
    try simp only [Act.put, List.setIfInBounds_toArray, List.set_cons_zero, List.set_cons_succ]
    refine held_take (i := 18) (v := ?_) rfl (by as_aux_lemma => kernel_rfl) (fun _ _ _ h => h) (by rfl) ?_ hHeld ?_
    rotate_left; · (intro w' hSw; go_split_ands; go_simp; try with_reducible rfl)
    try simp only [Act.put, List.setIfInBounds_toArray, List.set_cons_zero, List.set_cons_succ]
    refine held_take (i := 19) (v := ?_) rfl (by as_aux_lemma => kernel_rfl) (fun _ _ _ h => h) (by rfl) ?_ hHeld ?_
    rotate_left; · (intro w' _; go_simp; try with_reducible rfl)
    try simp only [Act.put, List.setIfInBounds_toArray, List.set_cons_zero, List.set_cons_succ]
    refine held_take (i := 20) (v := ?_) rfl (by as_aux_lemma => kernel_rfl) (fun _ _ _ h => h) (by rfl) ?_ hHeld ?_
    rotate_left; · (intro w' hSw; go_split_ands; go_simp; try with_reducible rfl)
    try simp only [Act.put, List.setIfInBounds_toArray, List.set_cons_zero, List.set_cons_succ]
    refine held_one (i := 21) rfl (by as_aux_lemma => kernel_rfl) (fun K hK => ?_)
    go_simp
    go_at_call 59
    refine (Hmag.out _).mono ?_
    rintro e v546 ⟨rfl, hb547⟩
    have hS548 := Hmk.out _ ((Hpr.out _ hHeld).trans (hb547.mono (Hpr.out _ hHeld).size))
    clear hb547 hHeld
    go_simp
    refine hK.out _ _ hS548 (fun hHeld549 => ?_)
    clear hK K hS548
    try simp only [Act.put, List.setIfInBounds_toArray, List.set_cons_zero, List.set_cons_succ]
    refine held_take (i := 22) (v := ?_) rfl (by as_aux_lemma => kernel_rfl) (fun _ _ _ h => h) (by rfl) ?_ hHeld549 ?_
    rotate_left; · (intro w' _; go_simp; try with_reducible rfl)
    try simp only [Act.put, List.setIfInBounds_toArray, List.set_cons_zero, List.set_cons_succ]
    as_aux_lemma =>
    refine held_take (i := 23) (v := ?_) rfl (by as_aux_lemma => kernel_rfl) (fun _ _ _ h => h) (by rfl) ?_ hHeld549 ?_
    rotate_left; · (intro w' _; go_simp; try with_reducible rfl)
    try simp only [Act.put, List.setIfInBounds_toArray, List.set_cons_zero, List.set_cons_succ]
    refine held_take (i := 24) (v := ?_) rfl (by as_aux_lemma => kernel_rfl) (fun _ _ _ h => h) (by rfl) ?_ hHeld549 ?_
    rotate_left; · (intro w' _; go_simp; try with_reducible rfl)
    try simp only [Act.put, List.setIfInBounds_toArray, List.set_cons_zero, List.set_cons_succ]
    refine held_take (i := 25) (v := ?_) rfl (by as_aux_lemma => kernel_rfl) (fun _ _ _ h => h) (by rfl) ?_ hHeld549 ?_
    rotate_left; · (intro w' _; go_simp; try with_reducible rfl)
    try simp only [Act.put, List.setIfInBounds_toArray, List.set_cons_zero, List.set_cons_succ]
    refine held_take (i := 26) (v := ?_) rfl (by as_aux_lemma => kernel_rfl) (fun _ _ _ h => h) (by rfl) ?_ hHeld549 ?_
    rotate_left; · (intro w' _; go_simp; try with_reducible rfl)
    try simp only [Act.put, List.setIfInBounds_toArray, List.set_cons_zero, List.set_cons_succ]
    refine held_take (i := 29) (v := ?_) rfl (by as_aux_lemma => kernel_rfl) (fun _ _ _ h => h) (by rfl) ?_ hHeld549 ?_
    rotate_left; · (intro w' _; go_simp; try with_reducible rfl)
    try simp only [Act.put, List.setIfInBounds_toArray, List.set_cons_zero, List.set_cons_succ]
    refine held_take (i := 30) (v := ?_) rfl (by as_aux_lemma => kernel_rfl) (fun _ _ _ h => h) (by rfl) ?_ hHeld549 ?_
    rotate_left; · (intro w' _; go_simp; try with_reducible rfl)
    try simp only [Act.put, List.setIfInBounds_toArray, List.set_cons_zero, List.set_cons_succ]
    refine held_one (i := 27) rfl (by as_aux_lemma => kernel_rfl) (fun K hK => ?_)
    go_simp
    go_at_call 61
    refine (Hcor.out _ ((HR544.out.below (Hpr.out _ hHeld549)).get ra R (by simp))).mono ?_
    rintro e v550 ⟨ka, kc, rfl, hb551⟩
    have hS552 := Hmk.out _ ((Hpr.out _ hHeld549).trans (hb551.mono (Hpr.out _ hHeld549).size))
    clear hb551 hHeld549
    go_simp
    refine hK.out _ _ hS552 (fun hHeld553 => ?_)
    clear hK K hS552
    try simp only [Act.put, List.setIfInBounds_toArray, List.set_cons_zero, List.set_cons_succ]
    refine held_take (i := 28) (v := ?_) rfl (by as_aux_lemma => kernel_rfl) (fun _ _ _ h => h) (by rfl) ?_ hHeld553 ?_
    rotate_left; · (intro w' _; go_simp; try with_reducible rfl)
    try simp only [Act.put, List.setIfInBounds_toArray, List.set_cons_zero, List.set_cons_succ]
    refine held_take (i := 31) (v := ?_) rfl (by as_aux_lemma => kernel_rfl) (fun _ _ _ h => h) (by rfl) ?_ hHeld553 ?_
    rotate_left; · (intro w' _; go_simp; try with_reducible rfl)
    try simp only [Act.put, List.setIfInBounds_toArray, List.set_cons_zero, List.set_cons_succ]
    refine held_take (i := 32) (v := ?_) rfl (by as_aux_lemma => kernel_rfl) (fun _ _ _ h => h) (by rfl) ?_ hHeld553 ?_
    rotate_left; · (intro w' _; go_simp; try with_reducible rfl)
    try simp only [Act.put, List.setIfInBounds_toArray, List.set_cons_zero, List.set_cons_succ]
    refine held_take (i := 33) (v := ?_) rfl (by as_aux_lemma => kernel_rfl) (fun _ _ _ h => h) (by rfl) ?_ hHeld553 ?_
    rotate_left; · (intro w' _; go_simp; try with_reducible rfl)
    try simp only [Act.put, List.setIfInBounds_toArray, List.set_cons_zero, List.set_cons_succ]
    refine held_done (by as_aux_lemma => kernel_rfl) ?_
    go_wp2
    go_ret
    exact ⟨by first | rfl | simp [*], Hch.out _ (Hpr.out _ hHeld553)⟩

set_option maxRecDepth 100000 in
theorem contract (H : Type) (enc : TypeId × Value → H) (W : World) (base : Nat) (args : Array Value) (ds gs : List (DataW H)) (before : List MemPlace)
    (hval : ∀ (j : Nat) t v, Tryz.f4.params[j]? = some t → args[j]? = some v → Value.okWide Tryz.prog W .any base t v)
    (hW : DataW.Whole enc Tryz.prog Tryz.f4.params.toList Rows.fnSlopesSpec.vars false W args.toList ds gs before) (hL : laidMetH Tryz.prog Rows.fnSlopesRow.laid W) (hShaped : W.ShapedOpen Tryz.prog) :
    Calls Tryz.prog 4 args W fun e W' => ∃ v, e = .returned v ∧ Rows.fnSlopesSpec.post enc Tryz.prog Tryz.f4 false true false false W args v W' := by
  have hW' := hW
  obtain ⟨p, q, hA0, hV, rfl, hfz, hnd⟩ := hW
  have hA : DataW.TrodAll enc Tryz.prog W 0 (fun _ => true) true Tryz.f4.params.toList args.toList ds p := hA0
  rw [Tryz.params4] at hA hval
  obtain ⟨v0, vs0, d0, ds0, p0, q0, hargs, rfl, rfl, h0, r0⟩ := trodAll_cons hA
  obtain ⟨rfl, rfl, rfl⟩ := trodAll_nil r0
  obtain rfl : args = #[v0] := by cases args; simp_all
  have hV : DataW.TrodVars enc Tryz.prog W (fun _ => true) ["loop.example/g03105/impl.errTooGreat"] gs q := hV
  obtain ⟨sa, hsv⟩ := Er.var_of hL (by rfl)
  have hvr : ∀ {X : World}, X.var? Tryz.prog "loop.example/g03105/impl.errTooGreat" = some #[.iface 187 (.pointer (some sa))] → ∀ sp : Nat → Bool, DataW.TrodVars enc Tryz.prog X sp ["loop.example/g03105/impl.errTooGreat"] [tok enc (.iface 187 (.pointer (some sa)))] [.cell 0 0] :=
    fun x0 sp => vars_read1 enc Er.gGreat Er.tGreat Tryz.underlying112 x0 trivial sp
  obtain ⟨rfl, rfl⟩ := hV.unique (hvr hsv _)
  have k0 := h0
  obtain ⟨acode, ccode, lcode, rfl, wcode⟩ := Read.bytes_of (hval 0 22 v0 rfl rfl) h0
  clear hA0
  simp only [List.append_nil] at hW'
  refine (law acode ccode lcode W wcode (errs_of hL (by rfl)) (laid_of hL (by rfl) (by rfl) (by rfl)) (hShaped)).mono fun e W' ⟨he, hg⟩ => ?_
  subst he
  exact ⟨_, rfl, post_of_below (pv := [.cell 0 0]) hW' (fun _ _ _ => trodAll_cons_mk (shut_bool Tryz.underlying4 _) trodAll_mk0)
    (fun sp hs => trodAll_cons_mk (trod_keeps (t := 22) (by kernel_rfl) (by kernel_rfl) (by kernel_rfl) k0 hg (fun x hx => hW'.lt x (by simp_all)) (fun x hx => hs x (by simp_all))) (trodAll_mk0))
    (fun sp _ => hvr (Er.var_keeps hg Er.gGreat hsv) sp) (by simp) hg (ok_one (by kernel_rfl) rfl (okWide_bool_mk Tryz.underlying4 _))⟩

theorem laid_met (os : Os) : laidMetH Tryz.prog Rows.fnSlopesRow.laid ((World.doorLaid Tryz.prog 91 os).forCall (fun _ _ => 0) ⟨#[], #[.slice none 0 0], []⟩).memory :=
  Low.met os #[.slice none 0 0] Rows.fnSlopesRow.laid (Rows.fnSlopesRow.laid.map (·.1)) (by rfl)
set_option maxRecDepth 100000 in
theorem lifted (os : Os) (started : os.Started) (H : Type) (enc : TypeId × Value → H) (F : Stop.Interp) :
    ReturnsInHanded {} Tryz.checked os 4 .any ((OpenSpec.ofChange Rows.fnSlopesSpec).preRow enc Tryz.prog Tryz.f4 Rows.fnSlopesRow.domain false Rows.fnSlopesRow.laid) (((OpenSpec.ofChange Rows.fnSlopesSpec).at F).post enc Tryz.prog Tryz.f4 false true false false) := by
  refine returnsInHanded_of_row (C := Tryz.checked) (s := OpenSpec.ofChange Rows.fnSlopesSpec) Low.own started (by kernel_rfl) Tryz.func4
    (witness_row_atRef (enc := enc) (C := Tryz.checked) false (World.doorLaid Tryz.prog 91 os) #[.slice none 0 0] (by unfold World.doorLaid; rfl) (Low.shapeB os #[.slice none 0 0]) (Low.shapeR os #[.slice none 0 0]) (by kernel_rfl)
      (OpenSpec.preRow_of_B rfl 8 (by kernel_rfl) (by kernel_rfl) (laid_met os))) ?_
  intro W base args ds gs before hval hW _ _ _ hL hShaped _
  exact contract H enc W base args ds gs before hval hW hL hShaped

theorem said : Rows.FnSlopesSaid :=
  OpenClaim.holds_of_cond 4 Tryz.f4 rfl rfl rfl rfl rfl rfl rfl ⟨rfl, rfl, rfl, rfl, rfl⟩ rfl rfl rfl rfl rfl (by kernel_rfl) Tryz.func4 (by kernel_rfl)
    (of_decide_eq_true (by kernel_rfl)) (by unfold Func.isWrapper; first | (rw [if_pos (by decide +kernel)]; kernel_rfl) | (rw [if_neg (by decide +kernel)]; exact ⟨rfl, rfl⟩))
    (fun os started H enc _ F => by rw [OpenClaim.pre_eq_preRow]; exact lifted os started H enc F)

theorem looks (f : FuncId) (fn : Func) (hf : Tryz.pinned.checked.prog.funcNamed "loop.example/g03105/laws.FnSlopes" = some f) (hfn : Tryz.pinned.checked.prog.funcs[f]? = some fn) :
    true = Tryz.pinned.checked.prog.looks [] ∧ ∀ (j : Nat) t, fn.params[j]? = some t → Tryz.pinned.checked.prog.wantsStandIn t = false := by
  obtain rfl : f = 4 := Option.some.inj ((show Tryz.prog.funcNamed "loop.example/g03105/laws.FnSlopes" = some 4 by kernel_rfl).symm.trans hf) |>.symm
  obtain rfl : fn = Tryz.f4 := (Option.some.inj (Tryz.func4.symm.trans hfn)).symm
  refine ⟨by kernel_rfl, fun j t ht => ?_⟩
  rw [Tryz.params4] at ht
  have hm : t ∈ [22] := by simpa using Array.mem_of_getElem? ht
  have hall : ([22].all fun u => !Tryz.prog.wantsStandIn u) = true := by kernel_rfl
  exact (show Tryz.prog.wantsStandIn t = false by simpa using List.all_eq_true.1 hall t hm)

theorem card : Rows.FnSlopesCardSaid :=
  Claim7.holds_tied_plain_at .later [] _ _ _ _ said (fun _ h => by cases h) (by kernel_rfl) (fun _ h => by cases h) fnSlopes_row_tie rfl ⟨rfl, rfl⟩ (by kernel_rfl) rfl looks (by kernel_rfl)
end Go.Proofs.YtehibigjdbpikaaGreatDoor.fnSlopes
