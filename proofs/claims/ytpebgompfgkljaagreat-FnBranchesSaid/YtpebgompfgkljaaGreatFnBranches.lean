/-
  For every draw: what closes up is a passport, braids keep passports, their sums and their covers, a cover has the Euler number that the document tells and no negative genus, and maps in one part have the cover of their genus.
-/
import Derived.Test.YtpebgompfgkljaaGreatBase
import Derived.Test.YtpebgompfgkljaaGreatLow
import Derived.Test.YtpebgompfgkljaaGreatSlice
import Derived.Test.YtpebgompfgkljaaGreatIntRow
import Derived.Test.YtpebgompfgkljaaGreatInts
import Derived.Test.YtpebgompfgkljaaGreatOwn
import Derived.Test.YtpebgompfgkljaaGreatGrid
import Derived.Test.YtpebgompfgkljaaGreatGridRows
import Derived.Test.YtpebgompfgkljaaGreatWord
import Derived.Test.YtpebgompfgkljaaGreatSurf
import Derived.Test.YtpebgompfgkljaaGreatMap
import Derived.Test.YtpebgompfgkljaaGreatMapA
import Derived.Test.YtpebgompfgkljaaGreatMapB
import Derived.Test.YtpebgompfgkljaaGreatCov
import Derived.Test.YtpebgompfgkljaaGreatBrA
import Derived.Test.YtpebgompfgkljaaGreatAdTot
import Derived.Test.YtpebgompfgkljaaGreatDraw
import Derived.Test.YtpebgompfgkljaaGreatDrawMap2
import Derived.Test.YtpebgompfgkljaaGreatDrawBr
import Derived.Test.YtpebgompfgkljaaGreatReadBytes
import Derived.Test.YtpebgompfgkljaaGreatSame
import Derived.Test.YtpebgompfgkljaaGreatHead
import Derived.Deep.DeepWitnessRowRef
import Derived.OpenShut
import Derived.Deep.DeepHandedRow
import Derived.LaidMore
namespace Go.Proofs.YtpebgompfgkljaaGreat.fnBranches
open Go.ChangeShapes Go.WideShapes Go.ChangeAt Go.RowKit Go.Sort
open Go.ChangeMaps (open_string)

def Done (w : World) (e : Ending) (w' : World) : Prop := e = .returned (.bool true) ∧ Below w.heap.size w w'
def Grids (w : World) (gs : List (Option Addr × List (List Int))) : Prop := ∀ a L, (a, L) ∈ gs → GridAt w a L
theorem Grids.nil (w : World) : Grids w [] := fun _ _ h => by cases h
theorem Grids.below {w w' : World} {gs : List (Option Addr × List (List Int))} (h : Grids w gs) (hb : Below w.heap.size w w') : Grids w' gs := fun a L hm => (h a L hm).below hb
theorem Grids.cons {w : World} {gs : List (Option Addr × List (List Int))} (h : Grids w gs) {a : Option Addr} {L : List (List Int)} (hg : GridAt w a L) : Grids w ((a, L) :: gs) := fun b M hm => by
  rcases List.mem_cons.1 hm with e | hm
  · cases e; exact hg
  · exact h b M hm
theorem held_on {S : World → Prop} {W0 W v : World} (mk : ∀ w2, Below W0.heap.size W0 w2 → S w2) (h : S W) (pr : S W → Below W0.heap.size W0 W) (hb : Below W.heap.size W v) : S v := mk v ((pr h).trans (hb.mono (pr h).size))
theorem held_skip {P : Program} {Q : Exit → Act → World → Prop} {md : Region.Mode} {S : World → Prop} {i : Nat} {l0 r : List Oper} {oi : Oper} {f : Nat} {listed : Array Bool} {a : Act} {w : World} (hd : l0.drop i = oi :: r)
    (hb : (Region.noSelect l0.toArray && Region.free md l0.toArray listed i && (Region.ready md l0.toArray listed).contains i) = true)
    (hQ : ∀ c a w, Q (.panic c) (a.put oi.dst undef) w → Q (.panic c) a w) (hw : Region.wanted oi (yielded l0.toArray a.tmps) = false) (hS : S w)
    (h : wpAnyH P md l0.toArray Q S f (listed.setIfInBounds i true) (a.put oi.dst undef) w) : wpAnyH P md l0.toArray Q S (f + 1) listed a w := by
  simp only [Bool.and_eq_true] at hb
  exact wpAnyH_take (drop_at hd) hb.1.1 hb.1.2 hb.2 hQ (Or.inr ⟨hw, rfl⟩) hS h
theorem rows_small {L : List (List Int)} (h : ∀ p ∈ L, p.length ≤ 10) : ∀ p ∈ L, p.length ≤ 1048576 := fun p hp => Nat.le_trans (h p hp) (by decide)
theorem few_small {L : List (List Int)} (h : ∀ p ∈ L, p.length ≤ 5) : ∀ p ∈ L, p.length ≤ 1048576 := fun p hp => Nat.le_trans (h p hp) (by decide)
theorem tot_mill {L : List (List Int)} (h : tot L ≤ 1000000) : tot L ≤ 1048576 := Nat.le_trans h (by decide)
theorem braid_few (L : List (List Int)) (k : Int) : (Br.braid L k).length ≤ 5 ∧ ∀ p ∈ Br.braid L k, p.length ≤ 5 := by
  unfold Br.braid; split
  · rename_i h
    have hf := (Br.braid_facts (k := k.toNat) h.1 (by have := h.2; omega)).1
    exact ⟨hf.1, fun p hp => by rw [(hf.2.1.1 p hp).1]; exact hf.2.1.2.2.2.2⟩
  · exact ⟨by simp, fun p hp => by cases hp⟩
theorem map_few (m : List Int) : (Br.mapPass m).length ≤ 5 ∧ ∀ p ∈ Br.mapPass m, p.length ≤ 5 := by
  unfold Br.mapPass; split
  · exact Br.closed_few _
  · exact ⟨by simp, fun p hp => by cases hp⟩
theorem braid_law {L : List (List Int)} {k : Int} (h : decide (Br.BraidOk L k) = true) : decide (Br.Pass (Br.braid L k)) = true ∧ decide (Br.CoverOk (Br.braid L k)) = decide (Br.CoverOk L) ∧ Br.cover (Br.braid L k) = Br.cover L ∧ Br.bsum (Br.braid L k) = Br.bsum L := by
  have hok := of_decide_eq_true h
  have hb : Br.braid L k = Br.braided L k.toNat := if_pos hok
  rw [hb]
  obtain ⟨f1, f2, f3, f4⟩ := Br.braid_facts (k := k.toNat) hok.1 (by have := hok.2; omega)
  have hc : Br.CoverOk (Br.braided L k.toNat) ↔ Br.CoverOk L := by
    unfold Br.CoverOk; rw [f3]; exact ⟨fun h => ⟨hok.1, h.2⟩, fun h => ⟨f1, h.2⟩⟩
  refine ⟨decide_eq_true f1, decide_eq_decide.2 hc, ?_, ?_⟩
  · unfold Br.cover
    by_cases hh : Br.CoverOk L
    · rw [if_pos hh, if_pos (hc.2 hh), f2, f4]
    · rw [if_neg hh, if_neg (fun h => hh (hc.1 h))]
  · unfold Br.bsum; rw [if_pos f1, if_pos hok.1, f4]
theorem close_law {L : List (List Int)} (h : decide (Br.CloseOk L) = true) : decide (Br.Pass (Br.closed L)) = true := by
  have hok := of_decide_eq_true h
  rw [show Br.closed L = L ++ [Br.last L] from if_pos hok]
  exact decide_eq_true (Br.closed_pass hok)
/-- A cover's Euler number. -/
theorem cover_law {L : List (List Int)} (h : decide (Br.CoverOk L) = true) : (Br.cover L).2.1 = 0 ∧ (Br.cover L).2.2 = 0 ∧ 0 ≤ (Br.cover L).1 ∧ (Br.cover L).1 ≤ 20 ∧ Br.bsum L = 2 * (Cv.deg L : Int) - (2 - 2 * (Br.cover L).1) ∧ Cv.deg L ≤ 5 ∧ 1 ≤ L.length := by
  have hok := of_decide_eq_true h
  obtain ⟨h1, h2⟩ := Br.cover_facts hok
  have ht := Br.total_all hok.1
  have hd := hok.1.2.1.2.2.2.2
  have hb : Br.bsum L = Br.total L := if_pos hok.1
  have hc : (Br.cover L).2.1 = 0 ∧ (Br.cover L).2.2 = 0 := by unfold Br.cover; rw [if_pos hok]; exact ⟨rfl, rfl⟩
  have hl := hok.1.2.1.2.1
  refine ⟨hc.1, hc.2, h1, ?_, ?_, hd, hl⟩ <;> omega
theorem map_law {m : List Int} (h : decide (Br.MapOk m) = true) (hp : Mp.partsOf m = 1) : decide (Br.CoverOk (Br.mapPass m)) = true ∧ (Br.cover (Br.mapPass m)).1 = Mp.genusOf m := by
  have hok := of_decide_eq_true h
  have hp1 : Mp.parts m = 1 := by
    unfold Mp.partsOf at hp
    rw [if_pos hok.1] at hp; omega
  obtain ⟨h1, h2⟩ := Br.map_cover hok hp1
  exact ⟨decide_eq_true h1, by rw [h2]; unfold Mp.genusOf; rw [if_pos hok.1]⟩

set_option maxRecDepth 100000 in
set_option maxHeartbeats 16000000 in
theorem law (a : Option Addr) (c : Nat) (l : List Int) (w : World) (hh : RowAt w a (byteCells l) ∧ l.length ≤ maxLen ∧ ∀ x ∈ l, 0 ≤ x ∧ x ≤ 255) :
    Calls Tryz.prog 4 #[.slice a l.length c] w (Done w) := by
  obtain ⟨ha, hl, hb⟩ := hh
  unfold maxLen at hl
  have Hb := Lib.hid hb; have Ha := Lib.hid ha
  clear hb ha
  by_cases hbig : 1048576 < l.length
  · have hd : decide (1048576 < l.length) = true := by simpa using hbig
    go_enter Tryz.func4, Tryz.ntmps4
    go_wp2_with fail
    refine (big a l.length c w (by omega)).mono ?_
    rintro e w' ⟨rfl, rfl⟩
    go_wp2
    go_ret
    exact ⟨rfl, Below.refl _ _⟩
  · have hd : decide (1048576 < l.length) = false := by simpa using hbig
    have hsz : l.length ≤ 1048576 := by omega
    have hB0 := Below.refl w.heap.size w
    have HR0 := Lib.hid (Rows.nil w)
    have HG0 := Lib.hid (Grids.nil w)
    go_enter Tryz.func4, Tryz.ntmps4
    go_wp2_with fail
    refine (big a l.length c w (by omega)).mono ?_
    rintro e w' ⟨rfl, rfl⟩
    go_wp2_with fail
    refine (drawBranchCover a c l w (Ha.out.below hB0) Hb.out hsz).mono ?_
    rintro e w2 ⟨aL, cL, L, rfl, hgL, hL1, hL5, hLp, hb1⟩
    have hB2 : Below w.heap.size w w2 := hB0.trans (hb1.mono hB0.size)
    have hB2x := Lib.hid hB2; clear hB2
    have HG3 := Lib.hid (Grids.cons (HG0.out.below hb1) hgL)
    clear HG0
    have HR4 := Lib.hid (HR0.out.below hb1)
    clear HR0
    clear hb1 hgL
    have HLp := Lib.hid (rows_small hLp); clear hLp
    have fC := fun (h : decide (Br.CoverOk L) = true) => cover_law h
    have fH : 1 ≤ L.length → ∃ r, L[0]? = some r ∧ r.length = Cv.deg L := fun h => Cv.head_get (by omega)
    have ciC := fun (q : Option Addr) (d : Nat) (W : World) (k : GridAt W q L) => impl_BranchCover q d L W k HLp.out (by omega)
    have csC := fun (q : Option Addr) (d : Nat) (W : World) (k : GridAt W q L) => spec_BranchCover q d L W k HLp.out (by omega)
    have ciP := fun (q : Option Addr) (d : Nat) (W : World) (k : GridAt W q L) => impl_IsPassport q d L W k HLp.out (by omega)
    have csP := fun (q : Option Addr) (d : Nat) (W : World) (k : GridAt W q L) => spec_IsPassport q d L W k HLp.out (by omega)
    have ciS := fun (q : Option Addr) (d : Nat) (W : World) (k : GridAt W q L) => impl_BranchSum q d L W k HLp.out (by omega)
    have csS := fun (q : Option Addr) (d : Nat) (W : World) (k : GridAt W q L) => spec_BranchSum q d L W k HLp.out (by omega)
    have ciT := fun (q : Option Addr) (d : Nat) (W : World) (k : GridAt W q L) => impl_CycleTypes q d L W k HLp.out (by omega)
    have csT := fun (q : Option Addr) (d : Nat) (W : World) (k : GridAt W q L) => spec_CycleTypes q d L W k HLp.out (by omega)
    have tT := tot_mill (Br.types_tot L)
    have hS0 : Br.cover L = ((Br.cover L).1, (Br.cover L).2.1, (Br.cover L).2.2) := rfl
    generalize (Br.cover L) = S at *
    obtain ⟨sx, sy, sz⟩ := S
    clear hS0
    generalize decide (Br.CoverOk L) = OK at *
    generalize decide (Br.Pass L) = PS at *
    generalize Br.bsum L = BS at *
    generalize Br.types L = TY at *
    generalize Cv.deg L = dg at *
    dsimp only at fC
    have HfC := Lib.hid fC; have HfH := Lib.hid fH; have HciC := Lib.hid ciC; have HcsC := Lib.hid csC; have HciP := Lib.hid ciP; have HcsP := Lib.hid csP; have HciS := Lib.hid ciS; have HcsS := Lib.hid csS; have HciT := Lib.hid ciT; have HcsT := Lib.hid csT; have HtT := Lib.hid tT
    clear fC fH ciC csC ciP csP ciS csS ciT csT tT
    go_wp2_with fail
    refine (HciC.out aL cL w2 (HG3.out aL L (by simp))).mono ?_
    rintro e w3 ⟨rfl, hb5⟩
    have hB6 : Below w.heap.size w w3 := hB2x.out.trans (hb5.mono hB2x.out.size)
    have hB6x := Lib.hid hB6; clear hB6
    have HG7 := Lib.hid (HG3.out.below hb5)
    clear HG3
    have HR8 := Lib.hid (HR4.out.below hb5)
    clear HR4
    clear hb5
    have hb9 : Below w3.heap.size w3 (w3.alloc (.cells #[.int .i64 sx, .int .i64 sy, .int .i64 sz] 46)) := (Below.refl _ _).alloc (Nat.le_refl _) _
    have hB10 : Below w.heap.size w (w3.alloc (.cells #[.int .i64 sx, .int .i64 sy, .int .i64 sz] 46)) := hB6x.out.trans (hb9.mono hB6x.out.size)
    have hB10x := Lib.hid hB10; clear hB10
    have HG11 := Lib.hid (HG7.out.below hb9)
    clear HG7
    have HR12 := Lib.hid (HR8.out.below hb9)
    clear HR8
    clear hb9
    have K13 := Lib.hid (show Blk (w3.alloc (.cells #[.int .i64 sx, .int .i64 sy, .int .i64 sz] 46)) w3.heap.size 46 #[.int .i64 sx, .int .i64 sy, .int .i64 sz] from Blk.new w3 _ _)
    go_wp2_with fail
    refine (HcsC.out aL cL (w3.alloc (.cells #[.int .i64 sx, .int .i64 sy, .int .i64 sz] 46)) (HG11.out aL L (by simp))).mono ?_
    rintro e w4 ⟨rfl, hb14⟩
    have hB15 : Below w.heap.size w w4 := hB10x.out.trans (hb14.mono hB10x.out.size)
    have hB15x := Lib.hid hB15; clear hB15
    have HG16 := Lib.hid (HG11.out.below hb14)
    clear HG11
    have HR17 := Lib.hid (HR12.out.below hb14)
    clear HR12
    have K18 := Lib.hid (K13.out.below hb14 K13.out.lt); clear K13
    clear hb14
    have hb19 : Below w4.heap.size w4 (w4.alloc (.cells #[.int .i64 sx, .int .i64 sy, .int .i64 sz] 46)) := (Below.refl _ _).alloc (Nat.le_refl _) _
    have hB20 : Below w.heap.size w (w4.alloc (.cells #[.int .i64 sx, .int .i64 sy, .int .i64 sz] 46)) := hB15x.out.trans (hb19.mono hB15x.out.size)
    have hB20x := Lib.hid hB20; clear hB20
    have HG21 := Lib.hid (HG16.out.below hb19)
    clear HG16
    have HR22 := Lib.hid (HR17.out.below hb19)
    clear HR17
    have K23 := Lib.hid (K18.out.below hb19 K18.out.lt); clear K18
    clear hb19
    have K24 := Lib.hid (show Blk (w4.alloc (.cells #[.int .i64 sx, .int .i64 sy, .int .i64 sz] 46)) w4.heap.size 46 #[.int .i64 sx, .int .i64 sy, .int .i64 sz] from Blk.new w4 _ _)
    as_aux_lemma =>
    go_wp2_with fail
    refine (drawCloseUp a c l (w4.alloc (.cells #[.int .i64 sx, .int .i64 sy, .int .i64 sz] 46)) (Ha.out.below hB20x.out) Hb.out hsz).mono ?_
    rintro e w5 ⟨aC, cC, C, rfl, hgC, hC1, hC5, hCp, hb25⟩
    have hB26 : Below w.heap.size w w5 := hB20x.out.trans (hb25.mono hB20x.out.size)
    have hB26x := Lib.hid hB26; clear hB26
    have HG27 := Lib.hid (Grids.cons (HG21.out.below hb25) hgC)
    clear HG21
    have HR28 := Lib.hid (HR22.out.below hb25)
    clear HR22
    have K29 := Lib.hid (K23.out.below hb25 K23.out.lt); clear K23
    have K30 := Lib.hid (K24.out.below hb25 K24.out.lt); clear K24
    clear hb25 hgC
    have HCp := Lib.hid (rows_small hCp); clear hCp
    have fX := fun (h : decide (Br.CloseOk C) = true) => close_law h
    have ciX := fun (q : Option Addr) (d : Nat) (W : World) (k : GridAt W q C) => impl_CloseUp q d C W k HCp.out (by omega)
    have csX := fun (q : Option Addr) (d : Nat) (W : World) (k : GridAt W q C) => spec_CloseUp q d C W k HCp.out (by omega)
    have hX5 := (Br.closed_few C).1; have hXp := few_small (Br.closed_few C).2; have tX := tot_mill (Br.closed_tot C)
    have ciXP := fun (q : Option Addr) (d : Nat) (W : World) (k : GridAt W q (Br.closed C)) => impl_IsPassport q d (Br.closed C) W k hXp (by omega)
    generalize decide (Br.Pass (Br.closed C)) = PX at *
    generalize decide (Br.CloseOk C) = ONE at *
    generalize Br.closed C = X at *
    have HfX := Lib.hid fX; have HciX := Lib.hid ciX; have HcsX := Lib.hid csX; have HciXP := Lib.hid ciXP; have HtX := Lib.hid tX
    clear hXp hX5 fX ciX csX ciXP tX
    go_wp2_with fail
    refine (HciX.out aC cC w5 (HG27.out aC C (by simp))).mono ?_
    rintro e w6 ⟨a31, c32, rfl, hc35, hm36, hg33, hb34⟩
    have hB37 : Below w.heap.size w w6 := hB26x.out.trans (hb34.mono hB26x.out.size)
    have hB37x := Lib.hid hB37; clear hB37
    have HG38 := Lib.hid (Grids.cons (HG27.out.below hb34) hg33.grid)
    clear HG27
    have HR39 := Lib.hid (HR28.out.below hb34)
    clear HR28
    have K40 := Lib.hid (K29.out.below hb34 K29.out.lt); clear K29
    have K41 := Lib.hid (K30.out.below hb34 K30.out.lt); clear K30
    clear hg33 hb34 hc35 hm36
    go_wp2_with fail
    refine (HcsX.out aC cC w6 (HG38.out aC C (by simp))).mono ?_
    rintro e w7 ⟨a42, c43, rfl, hc46, hm47, hg44, hb45⟩
    have hB48 : Below w.heap.size w w7 := hB37x.out.trans (hb45.mono hB37x.out.size)
    have hB48x := Lib.hid hB48; clear hB48
    have HG49 := Lib.hid (Grids.cons (HG38.out.below hb45) hg44.grid)
    clear HG38
    have HR50 := Lib.hid (HR39.out.below hb45)
    clear HR39
    have K51 := Lib.hid (K40.out.below hb45 K40.out.lt); clear K40
    have K52 := Lib.hid (K41.out.below hb45 K41.out.lt); clear K41
    clear hg44 hb45 hc46 hm47
    go_wp2_with fail
    refine (drawBraidPassport a c l w7 (Ha.out.below hB48x.out) Hb.out hsz).mono ?_
    rintro e w8 ⟨aP, cP, P, kk, rfl, hgP, hP1, hP5, hPp, hk0, hk1, hb53⟩
    have hB54 : Below w.heap.size w w8 := hB48x.out.trans (hb53.mono hB48x.out.size)
    have hB54x := Lib.hid hB54; clear hB54
    have HG55 := Lib.hid (Grids.cons (HG49.out.below hb53) hgP)
    clear HG49
    have HR56 := Lib.hid (HR50.out.below hb53)
    clear HR50
    have K57 := Lib.hid (K51.out.below hb53 K51.out.lt); clear K51
    have K58 := Lib.hid (K52.out.below hb53 K52.out.lt); clear K52
    clear hb53 hgP
    have HPp := Lib.hid (rows_small hPp); clear hPp
    have fB := fun (h : decide (Br.BraidOk P kk) = true) => braid_law h
    have ciB := fun (q : Option Addr) (d : Nat) (W : World) (k : GridAt W q P) => impl_BraidPassport q d P kk W k HPp.out (by omega) (by omega) (by omega)
    have csB := fun (q : Option Addr) (d : Nat) (W : World) (k : GridAt W q P) => spec_BraidPassport q d P kk W k HPp.out (by omega) (by omega) (by omega)
    have ciPC := fun (q : Option Addr) (d : Nat) (W : World) (k : GridAt W q P) => impl_BranchCover q d P W k HPp.out (by omega)
    have ciPS := fun (q : Option Addr) (d : Nat) (W : World) (k : GridAt W q P) => impl_BranchSum q d P W k HPp.out (by omega)
    have hB5 := (braid_few P kk).1; have hBp := few_small (braid_few P kk).2; have tB := tot_mill (Br.braid_tot P kk)
    have ciBC := fun (q : Option Addr) (d : Nat) (W : World) (k : GridAt W q (Br.braid P kk)) => impl_BranchCover q d (Br.braid P kk) W k hBp (by omega)
    have ciBS := fun (q : Option Addr) (d : Nat) (W : World) (k : GridAt W q (Br.braid P kk)) => impl_BranchSum q d (Br.braid P kk) W k hBp (by omega)
    have ciBP := fun (q : Option Addr) (d : Nat) (W : World) (k : GridAt W q (Br.braid P kk)) => impl_IsPassport q d (Br.braid P kk) W k hBp (by omega)
    generalize Br.cover P = S1 at *
    generalize Br.cover (Br.braid P kk) = S2 at *
    generalize decide (Br.CoverOk P) = OP at *
    generalize decide (Br.CoverOk (Br.braid P kk)) = OB at *
    generalize Br.bsum P = SP at *
    generalize Br.bsum (Br.braid P kk) = SB at *
    generalize decide (Br.Pass (Br.braid P kk)) = PB at *
    generalize decide (Br.BraidOk P kk) = FOUR at *
    generalize Br.braid P kk = Bd at *
    have HfB := Lib.hid fB; have HciB := Lib.hid ciB; have HcsB := Lib.hid csB; have HciPC := Lib.hid ciPC; have HciPS := Lib.hid ciPS; have HciBC := Lib.hid ciBC; have HciBS := Lib.hid ciBS; have HciBP := Lib.hid ciBP; have HtB := Lib.hid tB
    clear hBp hB5 fB ciB csB ciPC ciPS ciBC ciBS ciBP tB
    as_aux_lemma =>
    go_wp2_with fail
    refine (HciB.out aP cP w8 (HG55.out aP P (by simp))).mono ?_
    rintro e w9 ⟨a59, c60, rfl, hc63, hm64, hg61, hb62⟩
    have hB65 : Below w.heap.size w w9 := hB54x.out.trans (hb62.mono hB54x.out.size)
    have hB65x := Lib.hid hB65; clear hB65
    have HG66 := Lib.hid (Grids.cons (HG55.out.below hb62) hg61.grid)
    clear HG55
    have HR67 := Lib.hid (HR56.out.below hb62)
    clear HR56
    have K68 := Lib.hid (K57.out.below hb62 K57.out.lt); clear K57
    have K69 := Lib.hid (K58.out.below hb62 K58.out.lt); clear K58
    clear hg61 hb62 hc63 hm64
    go_wp2_with fail
    refine (HcsB.out aP cP w9 (HG66.out aP P (by simp))).mono ?_
    rintro e w10 ⟨a70, c71, rfl, hc74, hm75, hg72, hb73⟩
    have hB76 : Below w.heap.size w w10 := hB65x.out.trans (hb73.mono hB65x.out.size)
    have hB76x := Lib.hid hB76; clear hB76
    have HG77 := Lib.hid (Grids.cons (HG66.out.below hb73) hg72.grid)
    clear HG66
    have HR78 := Lib.hid (HR67.out.below hb73)
    clear HR67
    have K79 := Lib.hid (K68.out.below hb73 K68.out.lt); clear K68
    have K80 := Lib.hid (K69.out.below hb73 K69.out.lt); clear K69
    clear hg72 hb73 hc74 hm75
    go_wp2_with fail
    refine (drawMapPassport a c l w10 (Ha.out.below hB76x.out) Hb.out hsz).mono ?_
    rintro e w11 ⟨am, cm, m, rfl, hrm, hm13, hb81⟩
    have hB82 : Below w.heap.size w w11 := hB76x.out.trans (hb81.mono hB76x.out.size)
    have hB82x := Lib.hid hB82; clear hB82
    have HG83 := Lib.hid (HG77.out.below hb81)
    clear HG77
    have HR84 := Lib.hid (Rows.cons (HR78.out.below hb81) hrm)
    clear HR78
    have K85 := Lib.hid (K79.out.below hb81 K79.out.lt); clear K79
    have K86 := Lib.hid (K80.out.below hb81 K80.out.lt); clear K80
    clear hb81 hrm
    have fM := fun (h : decide (Br.MapOk m) = true) (hp : Mp.partsOf m = 1) => map_law h hp
    have ciM := fun (q : Option Addr) (d : Nat) (W : World) (k : RowAt W q (intCells m)) => impl_MapPassport q d m W k (by omega)
    have csM := fun (q : Option Addr) (d : Nat) (W : World) (k : RowAt W q (intCells m)) => spec_MapPassport q d m W k (by omega)
    have csMP := fun (q : Option Addr) (d : Nat) (W : World) (k : RowAt W q (intCells m)) => spec_MapParts q d m W k (by omega)
    have csMG := fun (q : Option Addr) (d : Nat) (W : World) (k : RowAt W q (intCells m)) => spec_GenusOf q d m W k (by omega)
    have hY5 := (map_few m).1; have hYp := few_small (map_few m).2; have tY := tot_mill (Br.map_tot m)
    have ciYC := fun (q : Option Addr) (d : Nat) (W : World) (k : GridAt W q (Br.mapPass m)) => impl_BranchCover q d (Br.mapPass m) W k hYp (by omega)
    generalize Br.cover (Br.mapPass m) = S3 at *
    generalize decide (Br.CoverOk (Br.mapPass m)) = OY at *
    generalize decide (Br.MapOk m) = SEVEN at *
    generalize Br.mapPass m = Y at *
    generalize Mp.partsOf m = PM at *
    generalize Mp.genusOf m = GM at *
    have HfM := Lib.hid fM; have HciM := Lib.hid ciM; have HcsM := Lib.hid csM; have HcsMP := Lib.hid csMP; have HcsMG := Lib.hid csMG; have HciYC := Lib.hid ciYC; have HtY := Lib.hid tY
    clear hYp hY5 fM ciM csM csMP csMG ciYC tY
    go_wp2_with fail
    refine (HciM.out am cm w11 (HR84.out.get am m (by simp))).mono ?_
    rintro e w12 ⟨a87, c88, rfl, hc91, hm92, hg89, hb90⟩
    have hB93 : Below w.heap.size w w12 := hB82x.out.trans (hb90.mono hB82x.out.size)
    have hB93x := Lib.hid hB93; clear hB93
    have HG94 := Lib.hid (Grids.cons (HG83.out.below hb90) hg89.grid)
    clear HG83
    have HR95 := Lib.hid (HR84.out.below hb90)
    clear HR84
    have K96 := Lib.hid (K85.out.below hb90 K85.out.lt); clear K85
    have K97 := Lib.hid (K86.out.below hb90 K86.out.lt); clear K86
    clear hg89 hb90 hc91 hm92
    as_aux_lemma =>
    go_wp2_with fail
    refine (HcsM.out am cm w12 (HR95.out.get am m (by simp))).mono ?_
    rintro e w13 ⟨a98, c99, rfl, hc102, hm103, hg100, hb101⟩
    have hB104 : Below w.heap.size w w13 := hB93x.out.trans (hb101.mono hB93x.out.size)
    have hB104x := Lib.hid hB104; clear hB104
    have HG105 := Lib.hid (Grids.cons (HG94.out.below hb101) hg100.grid)
    clear HG94
    have HR106 := Lib.hid (HR95.out.below hb101)
    clear HR95
    have K107 := Lib.hid (K96.out.below hb101 K96.out.lt); clear K96
    have K108 := Lib.hid (K97.out.below hb101 K97.out.lt); clear K97
    clear hg100 hb101 hc102 hm103
    go_upto_region 15 with fail
    go_cut [147] from 30 (fun sv wx => sv = .bool false ∧ Below w13.heap.size w13 wx)
    case first => as_aux_lemma =>
      have hA109 := Lib.hid (Below.refl w13.heap.size w13)
      obtain ⟨q110_0, q110_1, q110_2, q110_3, q110_4, q110_5⟩ := K107.out.six
      obtain ⟨q111_0, q111_1, q111_2, q111_3, q111_4, q111_5⟩ := K108.out.six
      go_wp2_with fail
      refine (sameLists_eq a31 a42 c32 c43 X w13 (HG105.out a31 X (by simp)) (HG105.out a42 X (by simp)) HtX.out).mono ?_
      rintro e w14 ⟨rfl, hb112⟩
      have hB113 : Below w.heap.size w w14 := hB104x.out.trans (hb112.mono hB104x.out.size)
      have hB113x := Lib.hid hB113; clear hB113
      have HG114 := Lib.hid (HG105.out.below hb112)
      clear HG105
      have HR115 := Lib.hid (HR106.out.below hb112)
      clear HR106
      have K116 := Lib.hid (K107.out.below hb112 K107.out.lt); clear K107
      have K117 := Lib.hid (K108.out.below hb112 K108.out.lt); clear K108
      have hA118 := Lib.hid (hA109.out.trans (hb112.mono hA109.out.size)); clear hA109
      clear hb112
      clear q110_0 q110_1 q110_2 q110_3 q110_4 q110_5 q111_0 q111_1 q111_2 q111_3 q111_4 q111_5
      go_wp2_with fail
      refine (sameLists_eq a59 a70 c60 c71 Bd w14 (HG114.out a59 Bd (by simp)) (HG114.out a70 Bd (by simp)) HtB.out).mono ?_
      rintro e w15 ⟨rfl, hb119⟩
      have hB120 : Below w.heap.size w w15 := hB113x.out.trans (hb119.mono hB113x.out.size)
      have hB120x := Lib.hid hB120; clear hB120
      have HG121 := Lib.hid (HG114.out.below hb119)
      clear HG114
      have HR122 := Lib.hid (HR115.out.below hb119)
      clear HR115
      have K123 := Lib.hid (K116.out.below hb119 K116.out.lt); clear K116
      have K124 := Lib.hid (K117.out.below hb119 K117.out.lt); clear K117
      have hA125 := Lib.hid (hA118.out.trans (hb119.mono hA118.out.size)); clear hA118
      clear hb119
      go_wp2_with fail
      refine (sameLists_eq a87 a98 c88 c99 Y w15 (HG121.out a87 Y (by simp)) (HG121.out a98 Y (by simp)) HtY.out).mono ?_
      rintro e w16 ⟨rfl, hb126⟩
      have hB127 : Below w.heap.size w w16 := hB120x.out.trans (hb126.mono hB120x.out.size)
      have hB127x := Lib.hid hB127; clear hB127
      have HG128 := Lib.hid (HG121.out.below hb126)
      clear HG121
      have HR129 := Lib.hid (HR122.out.below hb126)
      clear HR122
      have K130 := Lib.hid (K123.out.below hb126 K123.out.lt); clear K123
      have K131 := Lib.hid (K124.out.below hb126 K124.out.lt); clear K124
      have hA132 := Lib.hid (hA125.out.trans (hb126.mono hA125.out.size)); clear hA125
      clear hb126
      as_aux_lemma =>
      go_wp2_with fail
      refine (HciP.out aL cL w16 (HG128.out aL L (by simp))).mono ?_
      rintro e w17 ⟨rfl, hb133⟩
      have hB134 : Below w.heap.size w w17 := hB127x.out.trans (hb133.mono hB127x.out.size)
      have hB134x := Lib.hid hB134; clear hB134
      have HG135 := Lib.hid (HG128.out.below hb133)
      clear HG128
      have HR136 := Lib.hid (HR129.out.below hb133)
      clear HR129
      have K137 := Lib.hid (K130.out.below hb133 K130.out.lt); clear K130
      have K138 := Lib.hid (K131.out.below hb133 K131.out.lt); clear K131
      have hA139 := Lib.hid (hA132.out.trans (hb133.mono hA132.out.size)); clear hA132
      clear hb133
      go_wp2_with fail
      refine (HcsP.out aL cL w17 (HG135.out aL L (by simp))).mono ?_
      rintro e w18 ⟨rfl, hb140⟩
      have hB141 : Below w.heap.size w w18 := hB134x.out.trans (hb140.mono hB134x.out.size)
      have hB141x := Lib.hid hB141; clear hB141
      have HG142 := Lib.hid (HG135.out.below hb140)
      clear HG135
      have HR143 := Lib.hid (HR136.out.below hb140)
      clear HR136
      have K144 := Lib.hid (K137.out.below hb140 K137.out.lt); clear K137
      have K145 := Lib.hid (K138.out.below hb140 K138.out.lt); clear K138
      have hA146 := Lib.hid (hA139.out.trans (hb140.mono hA139.out.size)); clear hA139
      clear hb140
      go_wp2_with fail
      refine (HciS.out aL cL w18 (HG142.out aL L (by simp))).mono ?_
      rintro e w19 ⟨rfl, hb147⟩
      have hB148 : Below w.heap.size w w19 := hB141x.out.trans (hb147.mono hB141x.out.size)
      have hB148x := Lib.hid hB148; clear hB148
      have HG149 := Lib.hid (HG142.out.below hb147)
      clear HG142
      have HR150 := Lib.hid (HR143.out.below hb147)
      clear HR143
      have K151 := Lib.hid (K144.out.below hb147 K144.out.lt); clear K144
      have K152 := Lib.hid (K145.out.below hb147 K145.out.lt); clear K145
      have hA153 := Lib.hid (hA146.out.trans (hb147.mono hA146.out.size)); clear hA146
      clear hb147
      go_wp2_with fail
      refine (HcsS.out aL cL w19 (HG149.out aL L (by simp))).mono ?_
      rintro e w20 ⟨rfl, hb154⟩
      have hB155 : Below w.heap.size w w20 := hB148x.out.trans (hb154.mono hB148x.out.size)
      have hB155x := Lib.hid hB155; clear hB155
      have HG156 := Lib.hid (HG149.out.below hb154)
      clear HG149
      have HR157 := Lib.hid (HR150.out.below hb154)
      clear HR150
      have K158 := Lib.hid (K151.out.below hb154 K151.out.lt); clear K151
      have K159 := Lib.hid (K152.out.below hb154 K152.out.lt); clear K152
      have hA160 := Lib.hid (hA153.out.trans (hb154.mono hA153.out.size)); clear hA153
      clear hb154
      as_aux_lemma =>
      go_wp2_with fail
      refine (HciT.out aL cL w20 (HG156.out aL L (by simp))).mono ?_
      rintro e w21 ⟨a161, c162, rfl, hc165, hm166, hg163, hb164⟩
      have hB167 : Below w.heap.size w w21 := hB155x.out.trans (hb164.mono hB155x.out.size)
      have hB167x := Lib.hid hB167; clear hB167
      have HG168 := Lib.hid (Grids.cons (HG156.out.below hb164) hg163.grid)
      clear HG156
      have HR169 := Lib.hid (HR157.out.below hb164)
      clear HR157
      have K170 := Lib.hid (K158.out.below hb164 K158.out.lt); clear K158
      have K171 := Lib.hid (K159.out.below hb164 K159.out.lt); clear K159
      have hA172 := Lib.hid (hA160.out.trans (hb164.mono hA160.out.size)); clear hA160
      clear hg163 hb164 hc165 hm166
      go_wp2_with fail
      refine (HcsT.out aL cL w21 (HG168.out aL L (by simp))).mono ?_
      rintro e w22 ⟨a173, c174, rfl, hc177, hm178, hg175, hb176⟩
      have hB179 : Below w.heap.size w w22 := hB167x.out.trans (hb176.mono hB167x.out.size)
      have hB179x := Lib.hid hB179; clear hB179
      have HG180 := Lib.hid (Grids.cons (HG168.out.below hb176) hg175.grid)
      clear HG168
      have HR181 := Lib.hid (HR169.out.below hb176)
      clear HR169
      have K182 := Lib.hid (K170.out.below hb176 K170.out.lt); clear K170
      have K183 := Lib.hid (K171.out.below hb176 K171.out.lt); clear K171
      have hA184 := Lib.hid (hA172.out.trans (hb176.mono hA172.out.size)); clear hA172
      clear hg175 hb176 hc177 hm178
      go_wp2_with fail
      refine (sameLists_eq a161 a173 c162 c174 TY w22 (HG180.out a161 TY (by simp)) (HG180.out a173 TY (by simp)) HtT.out).mono ?_
      rintro e w23 ⟨rfl, hb185⟩
      have hB186 : Below w.heap.size w w23 := hB179x.out.trans (hb185.mono hB179x.out.size)
      have hB186x := Lib.hid hB186; clear hB186
      have HG187 := Lib.hid (HG180.out.below hb185)
      clear HG180
      have HR188 := Lib.hid (HR181.out.below hb185)
      clear HR181
      have K189 := Lib.hid (K182.out.below hb185 K182.out.lt); clear K182
      have K190 := Lib.hid (K183.out.below hb185 K183.out.lt); clear K183
      have hA191 := Lib.hid (hA184.out.trans (hb185.mono hA184.out.size)); clear hA184
      clear hb185
      go_wp2_with fail
      go_meet
      exact ⟨rfl, hA191.out⟩
    case rest => as_aux_lemma =>
    obtain ⟨rfl, hb192⟩ := hcut
    obtain ⟨w24, hu0⟩ : ∃ u, u = wc := ⟨_, rfl⟩
    subst hu0
    have hB193 : Below w.heap.size w w24 := hB104x.out.trans (hb192.mono hB104x.out.size)
    have hB193x := Lib.hid hB193; clear hB193
    have HG194 := Lib.hid (HG105.out.below hb192)
    clear HG105
    have HR195 := Lib.hid (HR106.out.below hb192)
    clear HR106
    have K196 := Lib.hid (K107.out.below hb192 K107.out.lt); clear K107
    have K197 := Lib.hid (K108.out.below hb192 K108.out.lt); clear K108
    clear hb192
    go_upto_region 17 with fail
    go_cut [174] from 30 (fun sv wx => sv = .bool false ∧ Below w24.heap.size w24 wx)
    case first => as_aux_lemma =>
      have hA198 := Lib.hid (Below.refl w24.heap.size w24)
      cases OK with
      | false => as_aux_lemma =>
        cases ONE with
        | false => as_aux_lemma =>
          go_quiet (fail)
          go_wp2_with fail
          go_meet
          exact ⟨rfl, by first | exact Below.refl _ _ | exact below_drewN (Below.refl _ _) _⟩
        | true => as_aux_lemma =>
          have hx := HfX.out rfl
          subst hx
          have Hmk := Lib.hid (fun (w2 : World) (h : Below w24.heap.size w24 w2) => h)
          have Hpr := Lib.hid (fun (w2 : World) (h : Below w24.heap.size w24 w2) => h)
          have Hgx := Lib.hid (HG194.out a31 X (by simp))
          refine held_begin (S := fun w' => Below w24.heap.size w24 w') 27 (by kernel_rfl) rfl ?_ (fun hHeld => ?_)
          · exact Hmk.out _ (Below.drew (Below.refl _ _))
          try simp only [Array.replicate]
          first | (refine held_take (i := 0) (v := ?_) rfl (by as_aux_lemma => kernel_rfl) (fun _ _ _ h => h) (by rfl) ?_ hHeld ?_; rotate_left; · (intro w' hSw; go_split_ands; go_simp; try with_reducible rfl)) | (refine held_skip (i := 0) rfl (by as_aux_lemma => kernel_rfl) (fun _ _ _ h => h) (by rfl) hHeld ?_)
          try simp only [Act.put, List.setIfInBounds_toArray, List.set_cons_zero, List.set_cons_succ]
          first | (refine held_take (i := 1) (v := ?_) rfl (by as_aux_lemma => kernel_rfl) (fun _ _ _ h => h) (by rfl) ?_ hHeld ?_; rotate_left; · (intro w' hSw; go_split_ands; go_simp; try with_reducible rfl)) | (refine held_skip (i := 1) rfl (by as_aux_lemma => kernel_rfl) (fun _ _ _ h => h) (by rfl) hHeld ?_)
          try simp only [Act.put, List.setIfInBounds_toArray, List.set_cons_zero, List.set_cons_succ]
          first | (refine held_take (i := 2) (v := ?_) rfl (by as_aux_lemma => kernel_rfl) (fun _ _ _ h => h) (by rfl) ?_ hHeld ?_; rotate_left; · (intro w' hSw; go_split_ands; go_simp; try with_reducible rfl)) | (refine held_skip (i := 2) rfl (by as_aux_lemma => kernel_rfl) (fun _ _ _ h => h) (by rfl) hHeld ?_)
          try simp only [Act.put, List.setIfInBounds_toArray, List.set_cons_zero, List.set_cons_succ]
          refine held_one (i := 3) rfl (by as_aux_lemma => kernel_rfl) (fun K hK => ?_)
          go_simp
          go_at_call 42
          refine (HciXP.out a31 c32 _ (Hgx.out.below hHeld)).mono ?_
          rintro e v200 ⟨rfl, hb201⟩
          have hS199 := held_on Hmk.out hHeld (fun h => Hpr.out _ h) hb201
          clear hb201 hHeld
          go_simp
          refine hK.out _ _ hS199 (fun hHeld202 => ?_)
          clear hK K hS199
          try simp only [Act.put, List.setIfInBounds_toArray, List.set_cons_zero, List.set_cons_succ]
          first | (refine held_take (i := 4) (v := ?_) rfl (by as_aux_lemma => kernel_rfl) (fun _ _ _ h => h) (by rfl) ?_ hHeld202 ?_; rotate_left; · (intro w' hSw; go_split_ands; go_simp; try with_reducible rfl)) | (refine held_skip (i := 4) rfl (by as_aux_lemma => kernel_rfl) (fun _ _ _ h => h) (by rfl) hHeld202 ?_)
          try simp only [Act.put, List.setIfInBounds_toArray, List.set_cons_zero, List.set_cons_succ]
          first | (refine held_take (i := 5) (v := ?_) rfl (by as_aux_lemma => kernel_rfl) (fun _ _ _ h => h) (by rfl) ?_ hHeld202 ?_; rotate_left; · (intro w' hSw; go_split_ands; go_simp; try with_reducible rfl)) | (refine held_skip (i := 5) rfl (by as_aux_lemma => kernel_rfl) (fun _ _ _ h => h) (by rfl) hHeld202 ?_)
          try simp only [Act.put, List.setIfInBounds_toArray, List.set_cons_zero, List.set_cons_succ]
          first | (refine held_take (i := 6) (v := ?_) rfl (by as_aux_lemma => kernel_rfl) (fun _ _ _ h => h) (by rfl) ?_ hHeld202 ?_; rotate_left; · (intro w' hSw; go_split_ands; go_simp; try with_reducible rfl)) | (refine held_skip (i := 6) rfl (by as_aux_lemma => kernel_rfl) (fun _ _ _ h => h) (by rfl) hHeld202 ?_)
          try simp only [Act.put, List.setIfInBounds_toArray, List.set_cons_zero, List.set_cons_succ]
          first | (refine held_take (i := 7) (v := ?_) rfl (by as_aux_lemma => kernel_rfl) (fun _ _ _ h => h) (by rfl) ?_ hHeld202 ?_; rotate_left; · (intro w' hSw; go_split_ands; go_simp; try with_reducible rfl)) | (refine held_skip (i := 7) rfl (by as_aux_lemma => kernel_rfl) (fun _ _ _ h => h) (by rfl) hHeld202 ?_)
          try simp only [Act.put, List.setIfInBounds_toArray, List.set_cons_zero, List.set_cons_succ]
          first | (refine held_take (i := 8) (v := ?_) rfl (by as_aux_lemma => kernel_rfl) (fun _ _ _ h => h) (by rfl) ?_ hHeld202 ?_; rotate_left; · (intro w' hSw; go_split_ands; go_simp; try with_reducible rfl)) | (refine held_skip (i := 8) rfl (by as_aux_lemma => kernel_rfl) (fun _ _ _ h => h) (by rfl) hHeld202 ?_)
          try simp only [Act.put, List.setIfInBounds_toArray, List.set_cons_zero, List.set_cons_succ]
          first | (refine held_take (i := 9) (v := ?_) rfl (by as_aux_lemma => kernel_rfl) (fun _ _ _ h => h) (by rfl) ?_ hHeld202 ?_; rotate_left; · (intro w' hSw; go_split_ands; go_simp; try with_reducible rfl)) | (refine held_skip (i := 9) rfl (by as_aux_lemma => kernel_rfl) (fun _ _ _ h => h) (by rfl) hHeld202 ?_)
          try simp only [Act.put, List.setIfInBounds_toArray, List.set_cons_zero, List.set_cons_succ]
          first | (refine held_take (i := 10) (v := ?_) rfl (by as_aux_lemma => kernel_rfl) (fun _ _ _ h => h) (by rfl) ?_ hHeld202 ?_; rotate_left; · (intro w' hSw; go_split_ands; go_simp; try with_reducible rfl)) | (refine held_skip (i := 10) rfl (by as_aux_lemma => kernel_rfl) (fun _ _ _ h => h) (by rfl) hHeld202 ?_)
          try simp only [Act.put, List.setIfInBounds_toArray, List.set_cons_zero, List.set_cons_succ]
          as_aux_lemma =>
          first | (refine held_take (i := 11) (v := ?_) rfl (by as_aux_lemma => kernel_rfl) (fun _ _ _ h => h) (by rfl) ?_ hHeld202 ?_; rotate_left; · (intro w' hSw; go_split_ands; go_simp; try with_reducible rfl)) | (refine held_skip (i := 11) rfl (by as_aux_lemma => kernel_rfl) (fun _ _ _ h => h) (by rfl) hHeld202 ?_)
          try simp only [Act.put, List.setIfInBounds_toArray, List.set_cons_zero, List.set_cons_succ]
          first | (refine held_take (i := 12) (v := ?_) rfl (by as_aux_lemma => kernel_rfl) (fun _ _ _ h => h) (by rfl) ?_ hHeld202 ?_; rotate_left; · (intro w' hSw; go_split_ands; go_simp; try with_reducible rfl)) | (refine held_skip (i := 12) rfl (by as_aux_lemma => kernel_rfl) (fun _ _ _ h => h) (by rfl) hHeld202 ?_)
          try simp only [Act.put, List.setIfInBounds_toArray, List.set_cons_zero, List.set_cons_succ]
          first | (refine held_take (i := 13) (v := ?_) rfl (by as_aux_lemma => kernel_rfl) (fun _ _ _ h => h) (by rfl) ?_ hHeld202 ?_; rotate_left; · (intro w' hSw; go_split_ands; go_simp; try with_reducible rfl)) | (refine held_skip (i := 13) rfl (by as_aux_lemma => kernel_rfl) (fun _ _ _ h => h) (by rfl) hHeld202 ?_)
          try simp only [Act.put, List.setIfInBounds_toArray, List.set_cons_zero, List.set_cons_succ]
          first | (refine held_take (i := 15) (v := ?_) rfl (by as_aux_lemma => kernel_rfl) (fun _ _ _ h => h) (by rfl) ?_ hHeld202 ?_; rotate_left; · (intro w' hSw; go_split_ands; go_simp; try with_reducible rfl)) | (refine held_skip (i := 15) rfl (by as_aux_lemma => kernel_rfl) (fun _ _ _ h => h) (by rfl) hHeld202 ?_)
          try simp only [Act.put, List.setIfInBounds_toArray, List.set_cons_zero, List.set_cons_succ]
          first | (refine held_take (i := 16) (v := ?_) rfl (by as_aux_lemma => kernel_rfl) (fun _ _ _ h => h) (by rfl) ?_ hHeld202 ?_; rotate_left; · (intro w' hSw; go_split_ands; go_simp; try with_reducible rfl)) | (refine held_skip (i := 16) rfl (by as_aux_lemma => kernel_rfl) (fun _ _ _ h => h) (by rfl) hHeld202 ?_)
          try simp only [Act.put, List.setIfInBounds_toArray, List.set_cons_zero, List.set_cons_succ]
          first | (refine held_take (i := 17) (v := ?_) rfl (by as_aux_lemma => kernel_rfl) (fun _ _ _ h => h) (by rfl) ?_ hHeld202 ?_; rotate_left; · (intro w' hSw; go_split_ands; go_simp; try with_reducible rfl)) | (refine held_skip (i := 17) rfl (by as_aux_lemma => kernel_rfl) (fun _ _ _ h => h) (by rfl) hHeld202 ?_)
          try simp only [Act.put, List.setIfInBounds_toArray, List.set_cons_zero, List.set_cons_succ]
          first | (refine held_take (i := 18) (v := ?_) rfl (by as_aux_lemma => kernel_rfl) (fun _ _ _ h => h) (by rfl) ?_ hHeld202 ?_; rotate_left; · (intro w' hSw; go_split_ands; go_simp; try with_reducible rfl)) | (refine held_skip (i := 18) rfl (by as_aux_lemma => kernel_rfl) (fun _ _ _ h => h) (by rfl) hHeld202 ?_)
          try simp only [Act.put, List.setIfInBounds_toArray, List.set_cons_zero, List.set_cons_succ]
          first | (refine held_take (i := 19) (v := ?_) rfl (by as_aux_lemma => kernel_rfl) (fun _ _ _ h => h) (by rfl) ?_ hHeld202 ?_; rotate_left; · (intro w' hSw; go_split_ands; go_simp; try with_reducible rfl)) | (refine held_skip (i := 19) rfl (by as_aux_lemma => kernel_rfl) (fun _ _ _ h => h) (by rfl) hHeld202 ?_)
          try simp only [Act.put, List.setIfInBounds_toArray, List.set_cons_zero, List.set_cons_succ]
          first | (refine held_take (i := 20) (v := ?_) rfl (by as_aux_lemma => kernel_rfl) (fun _ _ _ h => h) (by rfl) ?_ hHeld202 ?_; rotate_left; · (intro w' hSw; go_split_ands; go_simp; try with_reducible rfl)) | (refine held_skip (i := 20) rfl (by as_aux_lemma => kernel_rfl) (fun _ _ _ h => h) (by rfl) hHeld202 ?_)
          try simp only [Act.put, List.setIfInBounds_toArray, List.set_cons_zero, List.set_cons_succ]
          refine held_one (i := 14) rfl (by as_aux_lemma => kernel_rfl) (fun K hK => ?_)
          have hS203 := hHeld202
          clear hHeld202
          go_simp
          refine hK.out _ _ hS203 (fun hHeld204 => ?_)
          clear hK K hS203
          try simp only [Act.put, List.setIfInBounds_toArray, List.set_cons_zero, List.set_cons_succ]
          refine held_one (i := 21) rfl (by as_aux_lemma => kernel_rfl) (fun K hK => ?_)
          have hS205 := hHeld204
          clear hHeld204
          go_simp
          refine hK.out _ _ hS205 (fun hHeld206 => ?_)
          clear hK K hS205
          try simp only [Act.put, List.setIfInBounds_toArray, List.set_cons_zero, List.set_cons_succ]
          first | (refine held_take (i := 22) (v := ?_) rfl (by as_aux_lemma => kernel_rfl) (fun _ _ _ h => h) (by rfl) ?_ hHeld206 ?_; rotate_left; · (intro w' hSw; go_split_ands; go_simp; try with_reducible rfl)) | (refine held_skip (i := 22) rfl (by as_aux_lemma => kernel_rfl) (fun _ _ _ h => h) (by rfl) hHeld206 ?_)
          try simp only [Act.put, List.setIfInBounds_toArray, List.set_cons_zero, List.set_cons_succ]
          as_aux_lemma =>
          first | (refine held_take (i := 23) (v := ?_) rfl (by as_aux_lemma => kernel_rfl) (fun _ _ _ h => h) (by rfl) ?_ hHeld206 ?_; rotate_left; · (intro w' hSw; go_split_ands; go_simp; try with_reducible rfl)) | (refine held_skip (i := 23) rfl (by as_aux_lemma => kernel_rfl) (fun _ _ _ h => h) (by rfl) hHeld206 ?_)
          try simp only [Act.put, List.setIfInBounds_toArray, List.set_cons_zero, List.set_cons_succ]
          first | (refine held_take (i := 24) (v := ?_) rfl (by as_aux_lemma => kernel_rfl) (fun _ _ _ h => h) (by rfl) ?_ hHeld206 ?_; rotate_left; · (intro w' hSw; go_split_ands; go_simp; try with_reducible rfl)) | (refine held_skip (i := 24) rfl (by as_aux_lemma => kernel_rfl) (fun _ _ _ h => h) (by rfl) hHeld206 ?_)
          try simp only [Act.put, List.setIfInBounds_toArray, List.set_cons_zero, List.set_cons_succ]
          first | (refine held_take (i := 25) (v := ?_) rfl (by as_aux_lemma => kernel_rfl) (fun _ _ _ h => h) (by rfl) ?_ hHeld206 ?_; rotate_left; · (intro w' hSw; go_split_ands; go_simp; try with_reducible rfl)) | (refine held_skip (i := 25) rfl (by as_aux_lemma => kernel_rfl) (fun _ _ _ h => h) (by rfl) hHeld206 ?_)
          try simp only [Act.put, List.setIfInBounds_toArray, List.set_cons_zero, List.set_cons_succ]
          first | (refine held_take (i := 26) (v := ?_) rfl (by as_aux_lemma => kernel_rfl) (fun _ _ _ h => h) (by rfl) ?_ hHeld206 ?_; rotate_left; · (intro w' hSw; go_split_ands; go_simp; try with_reducible rfl)) | (refine held_skip (i := 26) rfl (by as_aux_lemma => kernel_rfl) (fun _ _ _ h => h) (by rfl) hHeld206 ?_)
          try simp only [Act.put, List.setIfInBounds_toArray, List.set_cons_zero, List.set_cons_succ]
          refine held_done (by as_aux_lemma => kernel_rfl) ?_
          go_wp2_with fail
          go_meet
          exact ⟨rfl, hHeld206⟩
      | true => as_aux_lemma =>
        cases ONE with
        | false => as_aux_lemma =>
          obtain ⟨c1, c2, c3, c4, c5, c6, c7⟩ := HfC.out rfl
          subst c1; subst c2
          obtain ⟨r, hr, hrl⟩ := HfH.out c7
          obtain ⟨b0, o0, a0, cc0, hb00, hbw0, hcell0, _⟩ := (HG194.out aL L (by simp)).get hr
          rw [Nat.add_zero, hrl] at hcell0
          subst hb00
          obtain ⟨E, hE⟩ : ∃ E : Int, 2 - 2 * sx = E := ⟨_, rfl⟩
          obtain ⟨M2, hM2⟩ : ∃ M2 : Int, 2 * (dg : Int) = M2 := ⟨_, rfl⟩
          have e1 : IntKind.i64.wrap (2 * (dg : Int)) = M2 := by rw [hM2]; exact wrap_small (by omega) (by omega)
          have e2 : IntKind.i64.wrap (M2 - BS) = E := by rw [show M2 - BS = E by omega]; exact wrap_small (by omega) (by omega)
          have hEu : Surf.euler sx 0 0 = E := by unfold Surf.euler; rw [if_pos ⟨⟨c3, c4⟩, by decide, by decide, Or.inr rfl⟩]; omega
          have HEu := Lib.hid (fun W => spec_EulerNumber sx 0 0 W (by intro x hx; simp at hx; omega))
          rw [hEu] at HEu
          have dn : ¬ sx < 0 := by omega
          have il : 0 < L.length := by omega
          have Hmk := Lib.hid (fun (w2 : World) (h : Below w24.heap.size w24 w2) => show w2.cell? ⟨b0, o0, none⟩ = some (.slice a0 dg cc0) ∧ w2.cell? ⟨w3.heap.size, 0, none⟩ = some (.int .i64 sx) ∧ w2.cell? ⟨w3.heap.size, 1, none⟩ = some (.int .i64 0) ∧ w2.cell? ⟨w3.heap.size, 2, none⟩ = some (.int .i64 0) ∧ Below w24.heap.size w24 w2 from ⟨by rw [h.cell hbw0]; exact hcell0, (K196.out.below h K196.out.lt).cell 0, (K196.out.below h K196.out.lt).cell 1, (K196.out.below h K196.out.lt).cell 2, h⟩)
          have Hpr := Lib.hid (fun (w2 : World) (h : w2.cell? ⟨b0, o0, none⟩ = some (.slice a0 dg cc0) ∧ w2.cell? ⟨w3.heap.size, 0, none⟩ = some (.int .i64 sx) ∧ w2.cell? ⟨w3.heap.size, 1, none⟩ = some (.int .i64 0) ∧ w2.cell? ⟨w3.heap.size, 2, none⟩ = some (.int .i64 0) ∧ Below w24.heap.size w24 w2) => h.2.2.2.2)
          have Hgx := Lib.hid (HG194.out a31 X (by simp))
          have Hgl := Lib.hid (HG194.out (some ⟨b0, o0, none⟩) L (by simp))
          clear c3 c4 c5 c6 hE hM2 hEu hcell0 hr hrl
          refine held_begin (S := fun w' => w'.cell? ⟨b0, o0, none⟩ = some (.slice a0 dg cc0) ∧ w'.cell? ⟨w3.heap.size, 0, none⟩ = some (.int .i64 sx) ∧ w'.cell? ⟨w3.heap.size, 1, none⟩ = some (.int .i64 0) ∧ w'.cell? ⟨w3.heap.size, 2, none⟩ = some (.int .i64 0) ∧ Below w24.heap.size w24 w') 27 (by kernel_rfl) rfl ?_ (fun hHeld => ?_)
          · exact Hmk.out _ (Below.drew (Below.refl _ _))
          try simp only [Array.replicate]
          first | (refine held_take (i := 0) (v := ?_) rfl (by as_aux_lemma => kernel_rfl) (fun _ _ _ h => h) (by rfl) ?_ hHeld ?_; rotate_left; · (intro w' hSw; go_split_ands; go_simp; try with_reducible rfl)) | (refine held_skip (i := 0) rfl (by as_aux_lemma => kernel_rfl) (fun _ _ _ h => h) (by rfl) hHeld ?_)
          try simp only [Act.put, List.setIfInBounds_toArray, List.set_cons_zero, List.set_cons_succ]
          first | (refine held_take (i := 1) (v := ?_) rfl (by as_aux_lemma => kernel_rfl) (fun _ _ _ h => h) (by rfl) ?_ hHeld ?_; rotate_left; · (intro w' hSw; go_split_ands; go_simp; try with_reducible rfl)) | (refine held_skip (i := 1) rfl (by as_aux_lemma => kernel_rfl) (fun _ _ _ h => h) (by rfl) hHeld ?_)
          try simp only [Act.put, List.setIfInBounds_toArray, List.set_cons_zero, List.set_cons_succ]
          first | (refine held_take (i := 2) (v := ?_) rfl (by as_aux_lemma => kernel_rfl) (fun _ _ _ h => h) (by rfl) ?_ hHeld ?_; rotate_left; · (intro w' hSw; go_split_ands; go_simp; try with_reducible rfl)) | (refine held_skip (i := 2) rfl (by as_aux_lemma => kernel_rfl) (fun _ _ _ h => h) (by rfl) hHeld ?_)
          try simp only [Act.put, List.setIfInBounds_toArray, List.set_cons_zero, List.set_cons_succ]
          refine held_one (i := 3) rfl (by as_aux_lemma => kernel_rfl) (fun K hK => ?_)
          have hS207 := hHeld
          clear hHeld
          go_simp
          refine hK.out _ _ hS207 (fun hHeld208 => ?_)
          clear hK K hS207
          try simp only [Act.put, List.setIfInBounds_toArray, List.set_cons_zero, List.set_cons_succ]
          first | (refine held_take (i := 4) (v := ?_) rfl (by as_aux_lemma => kernel_rfl) (fun _ _ _ h => h) (by rfl) ?_ hHeld208 ?_; rotate_left; · (intro w' hSw; go_split_ands; go_simp; try with_reducible rfl)) | (refine held_skip (i := 4) rfl (by as_aux_lemma => kernel_rfl) (fun _ _ _ h => h) (by rfl) hHeld208 ?_)
          try simp only [Act.put, List.setIfInBounds_toArray, List.set_cons_zero, List.set_cons_succ]
          first | (refine held_take (i := 5) (v := ?_) rfl (by as_aux_lemma => kernel_rfl) (fun _ _ _ h => h) (by rfl) ?_ hHeld208 ?_; rotate_left; · (intro w' hSw; go_split_ands; go_simp; try with_reducible rfl)) | (refine held_skip (i := 5) rfl (by as_aux_lemma => kernel_rfl) (fun _ _ _ h => h) (by rfl) hHeld208 ?_)
          try simp only [Act.put, List.setIfInBounds_toArray, List.set_cons_zero, List.set_cons_succ]
          first | (refine held_take (i := 6) (v := ?_) rfl (by as_aux_lemma => kernel_rfl) (fun _ _ _ h => h) (by rfl) ?_ hHeld208 ?_; rotate_left; · (intro w' hSw; go_split_ands; go_simp; try with_reducible rfl)) | (refine held_skip (i := 6) rfl (by as_aux_lemma => kernel_rfl) (fun _ _ _ h => h) (by rfl) hHeld208 ?_)
          try simp only [Act.put, List.setIfInBounds_toArray, List.set_cons_zero, List.set_cons_succ]
          first | (refine held_take (i := 7) (v := ?_) rfl (by as_aux_lemma => kernel_rfl) (fun _ _ _ h => h) (by rfl) ?_ hHeld208 ?_; rotate_left; · (intro w' hSw; go_split_ands; go_simp; try with_reducible rfl)) | (refine held_skip (i := 7) rfl (by as_aux_lemma => kernel_rfl) (fun _ _ _ h => h) (by rfl) hHeld208 ?_)
          try simp only [Act.put, List.setIfInBounds_toArray, List.set_cons_zero, List.set_cons_succ]
          first | (refine held_take (i := 8) (v := ?_) rfl (by as_aux_lemma => kernel_rfl) (fun _ _ _ h => h) (by rfl) ?_ hHeld208 ?_; rotate_left; · (intro w' hSw; go_split_ands; go_simp; try with_reducible rfl)) | (refine held_skip (i := 8) rfl (by as_aux_lemma => kernel_rfl) (fun _ _ _ h => h) (by rfl) hHeld208 ?_)
          try simp only [Act.put, List.setIfInBounds_toArray, List.set_cons_zero, List.set_cons_succ]
          first | (refine held_take (i := 9) (v := ?_) rfl (by as_aux_lemma => kernel_rfl) (fun _ _ _ h => h) (by rfl) ?_ hHeld208 ?_; rotate_left; · (intro w' hSw; go_split_ands; go_simp; try with_reducible rfl)) | (refine held_skip (i := 9) rfl (by as_aux_lemma => kernel_rfl) (fun _ _ _ h => h) (by rfl) hHeld208 ?_)
          try simp only [Act.put, List.setIfInBounds_toArray, List.set_cons_zero, List.set_cons_succ]
          first | (refine held_take (i := 10) (v := ?_) rfl (by as_aux_lemma => kernel_rfl) (fun _ _ _ h => h) (by rfl) ?_ hHeld208 ?_; rotate_left; · (intro w' hSw; go_split_ands; go_simp; try with_reducible rfl)) | (refine held_skip (i := 10) rfl (by as_aux_lemma => kernel_rfl) (fun _ _ _ h => h) (by rfl) hHeld208 ?_)
          try simp only [Act.put, List.setIfInBounds_toArray, List.set_cons_zero, List.set_cons_succ]
          as_aux_lemma =>
          first | (refine held_take (i := 11) (v := ?_) rfl (by as_aux_lemma => kernel_rfl) (fun _ _ _ h => h) (by rfl) ?_ hHeld208 ?_; rotate_left; · (intro w' hSw; go_split_ands; go_simp; try with_reducible rfl)) | (refine held_skip (i := 11) rfl (by as_aux_lemma => kernel_rfl) (fun _ _ _ h => h) (by rfl) hHeld208 ?_)
          try simp only [Act.put, List.setIfInBounds_toArray, List.set_cons_zero, List.set_cons_succ]
          first | (refine held_take (i := 12) (v := ?_) rfl (by as_aux_lemma => kernel_rfl) (fun _ _ _ h => h) (by rfl) ?_ hHeld208 ?_; rotate_left; · (intro w' hSw; go_split_ands; go_simp; try with_reducible rfl)) | (refine held_skip (i := 12) rfl (by as_aux_lemma => kernel_rfl) (fun _ _ _ h => h) (by rfl) hHeld208 ?_)
          try simp only [Act.put, List.setIfInBounds_toArray, List.set_cons_zero, List.set_cons_succ]
          first | (refine held_take (i := 13) (v := ?_) rfl (by as_aux_lemma => kernel_rfl) (fun _ _ _ h => h) (by rfl) ?_ hHeld208 ?_; rotate_left; · (intro w' hSw; go_split_ands; go_simp; try with_reducible rfl)) | (refine held_skip (i := 13) rfl (by as_aux_lemma => kernel_rfl) (fun _ _ _ h => h) (by rfl) hHeld208 ?_)
          try simp only [Act.put, List.setIfInBounds_toArray, List.set_cons_zero, List.set_cons_succ]
          first | (refine held_take (i := 15) (v := ?_) rfl (by as_aux_lemma => kernel_rfl) (fun _ _ _ h => h) (by rfl) ?_ hHeld208 ?_; rotate_left; · (intro w' hSw; go_split_ands; go_simp; try with_reducible rfl)) | (refine held_skip (i := 15) rfl (by as_aux_lemma => kernel_rfl) (fun _ _ _ h => h) (by rfl) hHeld208 ?_)
          try simp only [Act.put, List.setIfInBounds_toArray, List.set_cons_zero, List.set_cons_succ]
          first | (refine held_take (i := 16) (v := ?_) rfl (by as_aux_lemma => kernel_rfl) (fun _ _ _ h => h) (by rfl) ?_ hHeld208 ?_; rotate_left; · (intro w' hSw; go_split_ands; go_simp; try with_reducible rfl)) | (refine held_skip (i := 16) rfl (by as_aux_lemma => kernel_rfl) (fun _ _ _ h => h) (by rfl) hHeld208 ?_)
          try simp only [Act.put, List.setIfInBounds_toArray, List.set_cons_zero, List.set_cons_succ]
          first | (refine held_take (i := 17) (v := ?_) rfl (by as_aux_lemma => kernel_rfl) (fun _ _ _ h => h) (by rfl) ?_ hHeld208 ?_; rotate_left; · (intro w' hSw; go_split_ands; go_simp; try with_reducible rfl)) | (refine held_skip (i := 17) rfl (by as_aux_lemma => kernel_rfl) (fun _ _ _ h => h) (by rfl) hHeld208 ?_)
          try simp only [Act.put, List.setIfInBounds_toArray, List.set_cons_zero, List.set_cons_succ]
          first | (refine held_take (i := 18) (v := ?_) rfl (by as_aux_lemma => kernel_rfl) (fun _ _ _ h => h) (by rfl) ?_ hHeld208 ?_; rotate_left; · (intro w' hSw; go_split_ands; go_simp; try with_reducible rfl)) | (refine held_skip (i := 18) rfl (by as_aux_lemma => kernel_rfl) (fun _ _ _ h => h) (by rfl) hHeld208 ?_)
          try simp only [Act.put, List.setIfInBounds_toArray, List.set_cons_zero, List.set_cons_succ]
          first | (refine held_take (i := 19) (v := ?_) rfl (by as_aux_lemma => kernel_rfl) (fun _ _ _ h => h) (by rfl) ?_ hHeld208 ?_; rotate_left; · (intro w' hSw; go_split_ands; go_simp; try with_reducible rfl)) | (refine held_skip (i := 19) rfl (by as_aux_lemma => kernel_rfl) (fun _ _ _ h => h) (by rfl) hHeld208 ?_)
          try simp only [Act.put, List.setIfInBounds_toArray, List.set_cons_zero, List.set_cons_succ]
          first | (refine held_take (i := 20) (v := ?_) rfl (by as_aux_lemma => kernel_rfl) (fun _ _ _ h => h) (by rfl) ?_ hHeld208 ?_; rotate_left; · (intro w' hSw; go_split_ands; go_simp; try with_reducible rfl)) | (refine held_skip (i := 20) rfl (by as_aux_lemma => kernel_rfl) (fun _ _ _ h => h) (by rfl) hHeld208 ?_)
          try simp only [Act.put, List.setIfInBounds_toArray, List.set_cons_zero, List.set_cons_succ]
          refine held_one (i := 14) rfl (by as_aux_lemma => kernel_rfl) (fun K hK => ?_)
          go_simp
          go_at_call 29
          refine (HEu.out _).mono ?_
          rintro e v210 ⟨rfl, hb211⟩
          have hS209 := held_on Hmk.out hHeld208 (fun h => Hpr.out _ h) hb211
          clear hb211 hHeld208
          go_simp
          refine hK.out _ _ hS209 (fun hHeld212 => ?_)
          clear hK K hS209
          try simp only [Act.put, List.setIfInBounds_toArray, List.set_cons_zero, List.set_cons_succ]
          refine held_one (i := 21) rfl (by as_aux_lemma => kernel_rfl) (fun K hK => ?_)
          go_simp
          go_at_call 44
          refine (HciS.out (some ⟨b0, o0, none⟩) cL _ (Hgl.out.below (Hpr.out _ hHeld212))).mono ?_
          rintro e v214 ⟨rfl, hb215⟩
          have hS213 := held_on Hmk.out hHeld212 (fun h => Hpr.out _ h) hb215
          clear hb215 hHeld212
          go_simp
          refine hK.out _ _ hS213 (fun hHeld216 => ?_)
          clear hK K hS213
          try simp only [Act.put, List.setIfInBounds_toArray, List.set_cons_zero, List.set_cons_succ]
          first | (refine held_take (i := 22) (v := ?_) rfl (by as_aux_lemma => kernel_rfl) (fun _ _ _ h => h) (by rfl) ?_ hHeld216 ?_; rotate_left; · (intro w' hSw; go_split_ands; go_simp; try with_reducible rfl)) | (refine held_skip (i := 22) rfl (by as_aux_lemma => kernel_rfl) (fun _ _ _ h => h) (by rfl) hHeld216 ?_)
          try simp only [Act.put, List.setIfInBounds_toArray, List.set_cons_zero, List.set_cons_succ]
          as_aux_lemma =>
          first | (refine held_take (i := 23) (v := ?_) rfl (by as_aux_lemma => kernel_rfl) (fun _ _ _ h => h) (by rfl) ?_ hHeld216 ?_; rotate_left; · (intro w' hSw; go_split_ands; go_simp; try with_reducible rfl)) | (refine held_skip (i := 23) rfl (by as_aux_lemma => kernel_rfl) (fun _ _ _ h => h) (by rfl) hHeld216 ?_)
          try simp only [Act.put, List.setIfInBounds_toArray, List.set_cons_zero, List.set_cons_succ]
          first | (refine held_take (i := 24) (v := ?_) rfl (by as_aux_lemma => kernel_rfl) (fun _ _ _ h => h) (by rfl) ?_ hHeld216 ?_; rotate_left; · (intro w' hSw; go_split_ands; go_simp; try with_reducible rfl)) | (refine held_skip (i := 24) rfl (by as_aux_lemma => kernel_rfl) (fun _ _ _ h => h) (by rfl) hHeld216 ?_)
          try simp only [Act.put, List.setIfInBounds_toArray, List.set_cons_zero, List.set_cons_succ]
          first | (refine held_take (i := 25) (v := ?_) rfl (by as_aux_lemma => kernel_rfl) (fun _ _ _ h => h) (by rfl) ?_ hHeld216 ?_; rotate_left; · (intro w' hSw; go_split_ands; go_simp; try with_reducible rfl)) | (refine held_skip (i := 25) rfl (by as_aux_lemma => kernel_rfl) (fun _ _ _ h => h) (by rfl) hHeld216 ?_)
          try simp only [Act.put, List.setIfInBounds_toArray, List.set_cons_zero, List.set_cons_succ]
          first | (refine held_take (i := 26) (v := ?_) rfl (by as_aux_lemma => kernel_rfl) (fun _ _ _ h => h) (by rfl) ?_ hHeld216 ?_; rotate_left; · (intro w' hSw; go_split_ands; go_simp; try with_reducible rfl)) | (refine held_skip (i := 26) rfl (by as_aux_lemma => kernel_rfl) (fun _ _ _ h => h) (by rfl) hHeld216 ?_)
          try simp only [Act.put, List.setIfInBounds_toArray, List.set_cons_zero, List.set_cons_succ]
          refine held_done (by as_aux_lemma => kernel_rfl) ?_
          go_wp2_with fail
          go_meet
          exact ⟨rfl, Hpr.out _ hHeld216⟩
        | true => as_aux_lemma =>
          have hx := HfX.out rfl
          subst hx
          obtain ⟨c1, c2, c3, c4, c5, c6, c7⟩ := HfC.out rfl
          subst c1; subst c2
          obtain ⟨r, hr, hrl⟩ := HfH.out c7
          obtain ⟨b0, o0, a0, cc0, hb00, hbw0, hcell0, _⟩ := (HG194.out aL L (by simp)).get hr
          rw [Nat.add_zero, hrl] at hcell0
          subst hb00
          obtain ⟨E, hE⟩ : ∃ E : Int, 2 - 2 * sx = E := ⟨_, rfl⟩
          obtain ⟨M2, hM2⟩ : ∃ M2 : Int, 2 * (dg : Int) = M2 := ⟨_, rfl⟩
          have e1 : IntKind.i64.wrap (2 * (dg : Int)) = M2 := by rw [hM2]; exact wrap_small (by omega) (by omega)
          have e2 : IntKind.i64.wrap (M2 - BS) = E := by rw [show M2 - BS = E by omega]; exact wrap_small (by omega) (by omega)
          have hEu : Surf.euler sx 0 0 = E := by unfold Surf.euler; rw [if_pos ⟨⟨c3, c4⟩, by decide, by decide, Or.inr rfl⟩]; omega
          have HEu := Lib.hid (fun W => spec_EulerNumber sx 0 0 W (by intro x hx; simp at hx; omega))
          rw [hEu] at HEu
          have dn : ¬ sx < 0 := by omega
          have il : 0 < L.length := by omega
          have Hmk := Lib.hid (fun (w2 : World) (h : Below w24.heap.size w24 w2) => show w2.cell? ⟨b0, o0, none⟩ = some (.slice a0 dg cc0) ∧ w2.cell? ⟨w3.heap.size, 0, none⟩ = some (.int .i64 sx) ∧ w2.cell? ⟨w3.heap.size, 1, none⟩ = some (.int .i64 0) ∧ w2.cell? ⟨w3.heap.size, 2, none⟩ = some (.int .i64 0) ∧ Below w24.heap.size w24 w2 from ⟨by rw [h.cell hbw0]; exact hcell0, (K196.out.below h K196.out.lt).cell 0, (K196.out.below h K196.out.lt).cell 1, (K196.out.below h K196.out.lt).cell 2, h⟩)
          have Hpr := Lib.hid (fun (w2 : World) (h : w2.cell? ⟨b0, o0, none⟩ = some (.slice a0 dg cc0) ∧ w2.cell? ⟨w3.heap.size, 0, none⟩ = some (.int .i64 sx) ∧ w2.cell? ⟨w3.heap.size, 1, none⟩ = some (.int .i64 0) ∧ w2.cell? ⟨w3.heap.size, 2, none⟩ = some (.int .i64 0) ∧ Below w24.heap.size w24 w2) => h.2.2.2.2)
          have Hgx := Lib.hid (HG194.out a31 X (by simp))
          have Hgl := Lib.hid (HG194.out (some ⟨b0, o0, none⟩) L (by simp))
          clear c3 c4 c5 c6 hE hM2 hEu hcell0 hr hrl
          refine held_begin (S := fun w' => w'.cell? ⟨b0, o0, none⟩ = some (.slice a0 dg cc0) ∧ w'.cell? ⟨w3.heap.size, 0, none⟩ = some (.int .i64 sx) ∧ w'.cell? ⟨w3.heap.size, 1, none⟩ = some (.int .i64 0) ∧ w'.cell? ⟨w3.heap.size, 2, none⟩ = some (.int .i64 0) ∧ Below w24.heap.size w24 w') 27 (by kernel_rfl) rfl ?_ (fun hHeld => ?_)
          · exact Hmk.out _ (Below.drew (Below.refl _ _))
          try simp only [Array.replicate]
          first | (refine held_take (i := 0) (v := ?_) rfl (by as_aux_lemma => kernel_rfl) (fun _ _ _ h => h) (by rfl) ?_ hHeld ?_; rotate_left; · (intro w' hSw; go_split_ands; go_simp; try with_reducible rfl)) | (refine held_skip (i := 0) rfl (by as_aux_lemma => kernel_rfl) (fun _ _ _ h => h) (by rfl) hHeld ?_)
          try simp only [Act.put, List.setIfInBounds_toArray, List.set_cons_zero, List.set_cons_succ]
          first | (refine held_take (i := 1) (v := ?_) rfl (by as_aux_lemma => kernel_rfl) (fun _ _ _ h => h) (by rfl) ?_ hHeld ?_; rotate_left; · (intro w' hSw; go_split_ands; go_simp; try with_reducible rfl)) | (refine held_skip (i := 1) rfl (by as_aux_lemma => kernel_rfl) (fun _ _ _ h => h) (by rfl) hHeld ?_)
          try simp only [Act.put, List.setIfInBounds_toArray, List.set_cons_zero, List.set_cons_succ]
          first | (refine held_take (i := 2) (v := ?_) rfl (by as_aux_lemma => kernel_rfl) (fun _ _ _ h => h) (by rfl) ?_ hHeld ?_; rotate_left; · (intro w' hSw; go_split_ands; go_simp; try with_reducible rfl)) | (refine held_skip (i := 2) rfl (by as_aux_lemma => kernel_rfl) (fun _ _ _ h => h) (by rfl) hHeld ?_)
          try simp only [Act.put, List.setIfInBounds_toArray, List.set_cons_zero, List.set_cons_succ]
          refine held_one (i := 3) rfl (by as_aux_lemma => kernel_rfl) (fun K hK => ?_)
          go_simp
          go_at_call 42
          refine (HciXP.out a31 c32 _ (Hgx.out.below (Hpr.out _ hHeld))).mono ?_
          rintro e v218 ⟨rfl, hb219⟩
          have hS217 := held_on Hmk.out hHeld (fun h => Hpr.out _ h) hb219
          clear hb219 hHeld
          go_simp
          refine hK.out _ _ hS217 (fun hHeld220 => ?_)
          clear hK K hS217
          try simp only [Act.put, List.setIfInBounds_toArray, List.set_cons_zero, List.set_cons_succ]
          first | (refine held_take (i := 4) (v := ?_) rfl (by as_aux_lemma => kernel_rfl) (fun _ _ _ h => h) (by rfl) ?_ hHeld220 ?_; rotate_left; · (intro w' hSw; go_split_ands; go_simp; try with_reducible rfl)) | (refine held_skip (i := 4) rfl (by as_aux_lemma => kernel_rfl) (fun _ _ _ h => h) (by rfl) hHeld220 ?_)
          try simp only [Act.put, List.setIfInBounds_toArray, List.set_cons_zero, List.set_cons_succ]
          first | (refine held_take (i := 5) (v := ?_) rfl (by as_aux_lemma => kernel_rfl) (fun _ _ _ h => h) (by rfl) ?_ hHeld220 ?_; rotate_left; · (intro w' hSw; go_split_ands; go_simp; try with_reducible rfl)) | (refine held_skip (i := 5) rfl (by as_aux_lemma => kernel_rfl) (fun _ _ _ h => h) (by rfl) hHeld220 ?_)
          try simp only [Act.put, List.setIfInBounds_toArray, List.set_cons_zero, List.set_cons_succ]
          first | (refine held_take (i := 6) (v := ?_) rfl (by as_aux_lemma => kernel_rfl) (fun _ _ _ h => h) (by rfl) ?_ hHeld220 ?_; rotate_left; · (intro w' hSw; go_split_ands; go_simp; try with_reducible rfl)) | (refine held_skip (i := 6) rfl (by as_aux_lemma => kernel_rfl) (fun _ _ _ h => h) (by rfl) hHeld220 ?_)
          try simp only [Act.put, List.setIfInBounds_toArray, List.set_cons_zero, List.set_cons_succ]
          first | (refine held_take (i := 7) (v := ?_) rfl (by as_aux_lemma => kernel_rfl) (fun _ _ _ h => h) (by rfl) ?_ hHeld220 ?_; rotate_left; · (intro w' hSw; go_split_ands; go_simp; try with_reducible rfl)) | (refine held_skip (i := 7) rfl (by as_aux_lemma => kernel_rfl) (fun _ _ _ h => h) (by rfl) hHeld220 ?_)
          try simp only [Act.put, List.setIfInBounds_toArray, List.set_cons_zero, List.set_cons_succ]
          first | (refine held_take (i := 8) (v := ?_) rfl (by as_aux_lemma => kernel_rfl) (fun _ _ _ h => h) (by rfl) ?_ hHeld220 ?_; rotate_left; · (intro w' hSw; go_split_ands; go_simp; try with_reducible rfl)) | (refine held_skip (i := 8) rfl (by as_aux_lemma => kernel_rfl) (fun _ _ _ h => h) (by rfl) hHeld220 ?_)
          try simp only [Act.put, List.setIfInBounds_toArray, List.set_cons_zero, List.set_cons_succ]
          first | (refine held_take (i := 9) (v := ?_) rfl (by as_aux_lemma => kernel_rfl) (fun _ _ _ h => h) (by rfl) ?_ hHeld220 ?_; rotate_left; · (intro w' hSw; go_split_ands; go_simp; try with_reducible rfl)) | (refine held_skip (i := 9) rfl (by as_aux_lemma => kernel_rfl) (fun _ _ _ h => h) (by rfl) hHeld220 ?_)
          try simp only [Act.put, List.setIfInBounds_toArray, List.set_cons_zero, List.set_cons_succ]
          first | (refine held_take (i := 10) (v := ?_) rfl (by as_aux_lemma => kernel_rfl) (fun _ _ _ h => h) (by rfl) ?_ hHeld220 ?_; rotate_left; · (intro w' hSw; go_split_ands; go_simp; try with_reducible rfl)) | (refine held_skip (i := 10) rfl (by as_aux_lemma => kernel_rfl) (fun _ _ _ h => h) (by rfl) hHeld220 ?_)
          try simp only [Act.put, List.setIfInBounds_toArray, List.set_cons_zero, List.set_cons_succ]
          as_aux_lemma =>
          first | (refine held_take (i := 11) (v := ?_) rfl (by as_aux_lemma => kernel_rfl) (fun _ _ _ h => h) (by rfl) ?_ hHeld220 ?_; rotate_left; · (intro w' hSw; go_split_ands; go_simp; try with_reducible rfl)) | (refine held_skip (i := 11) rfl (by as_aux_lemma => kernel_rfl) (fun _ _ _ h => h) (by rfl) hHeld220 ?_)
          try simp only [Act.put, List.setIfInBounds_toArray, List.set_cons_zero, List.set_cons_succ]
          first | (refine held_take (i := 12) (v := ?_) rfl (by as_aux_lemma => kernel_rfl) (fun _ _ _ h => h) (by rfl) ?_ hHeld220 ?_; rotate_left; · (intro w' hSw; go_split_ands; go_simp; try with_reducible rfl)) | (refine held_skip (i := 12) rfl (by as_aux_lemma => kernel_rfl) (fun _ _ _ h => h) (by rfl) hHeld220 ?_)
          try simp only [Act.put, List.setIfInBounds_toArray, List.set_cons_zero, List.set_cons_succ]
          first | (refine held_take (i := 13) (v := ?_) rfl (by as_aux_lemma => kernel_rfl) (fun _ _ _ h => h) (by rfl) ?_ hHeld220 ?_; rotate_left; · (intro w' hSw; go_split_ands; go_simp; try with_reducible rfl)) | (refine held_skip (i := 13) rfl (by as_aux_lemma => kernel_rfl) (fun _ _ _ h => h) (by rfl) hHeld220 ?_)
          try simp only [Act.put, List.setIfInBounds_toArray, List.set_cons_zero, List.set_cons_succ]
          first | (refine held_take (i := 15) (v := ?_) rfl (by as_aux_lemma => kernel_rfl) (fun _ _ _ h => h) (by rfl) ?_ hHeld220 ?_; rotate_left; · (intro w' hSw; go_split_ands; go_simp; try with_reducible rfl)) | (refine held_skip (i := 15) rfl (by as_aux_lemma => kernel_rfl) (fun _ _ _ h => h) (by rfl) hHeld220 ?_)
          try simp only [Act.put, List.setIfInBounds_toArray, List.set_cons_zero, List.set_cons_succ]
          first | (refine held_take (i := 16) (v := ?_) rfl (by as_aux_lemma => kernel_rfl) (fun _ _ _ h => h) (by rfl) ?_ hHeld220 ?_; rotate_left; · (intro w' hSw; go_split_ands; go_simp; try with_reducible rfl)) | (refine held_skip (i := 16) rfl (by as_aux_lemma => kernel_rfl) (fun _ _ _ h => h) (by rfl) hHeld220 ?_)
          try simp only [Act.put, List.setIfInBounds_toArray, List.set_cons_zero, List.set_cons_succ]
          first | (refine held_take (i := 17) (v := ?_) rfl (by as_aux_lemma => kernel_rfl) (fun _ _ _ h => h) (by rfl) ?_ hHeld220 ?_; rotate_left; · (intro w' hSw; go_split_ands; go_simp; try with_reducible rfl)) | (refine held_skip (i := 17) rfl (by as_aux_lemma => kernel_rfl) (fun _ _ _ h => h) (by rfl) hHeld220 ?_)
          try simp only [Act.put, List.setIfInBounds_toArray, List.set_cons_zero, List.set_cons_succ]
          first | (refine held_take (i := 18) (v := ?_) rfl (by as_aux_lemma => kernel_rfl) (fun _ _ _ h => h) (by rfl) ?_ hHeld220 ?_; rotate_left; · (intro w' hSw; go_split_ands; go_simp; try with_reducible rfl)) | (refine held_skip (i := 18) rfl (by as_aux_lemma => kernel_rfl) (fun _ _ _ h => h) (by rfl) hHeld220 ?_)
          try simp only [Act.put, List.setIfInBounds_toArray, List.set_cons_zero, List.set_cons_succ]
          first | (refine held_take (i := 19) (v := ?_) rfl (by as_aux_lemma => kernel_rfl) (fun _ _ _ h => h) (by rfl) ?_ hHeld220 ?_; rotate_left; · (intro w' hSw; go_split_ands; go_simp; try with_reducible rfl)) | (refine held_skip (i := 19) rfl (by as_aux_lemma => kernel_rfl) (fun _ _ _ h => h) (by rfl) hHeld220 ?_)
          try simp only [Act.put, List.setIfInBounds_toArray, List.set_cons_zero, List.set_cons_succ]
          first | (refine held_take (i := 20) (v := ?_) rfl (by as_aux_lemma => kernel_rfl) (fun _ _ _ h => h) (by rfl) ?_ hHeld220 ?_; rotate_left; · (intro w' hSw; go_split_ands; go_simp; try with_reducible rfl)) | (refine held_skip (i := 20) rfl (by as_aux_lemma => kernel_rfl) (fun _ _ _ h => h) (by rfl) hHeld220 ?_)
          try simp only [Act.put, List.setIfInBounds_toArray, List.set_cons_zero, List.set_cons_succ]
          refine held_one (i := 14) rfl (by as_aux_lemma => kernel_rfl) (fun K hK => ?_)
          go_simp
          go_at_call 29
          refine (HEu.out _).mono ?_
          rintro e v222 ⟨rfl, hb223⟩
          have hS221 := held_on Hmk.out hHeld220 (fun h => Hpr.out _ h) hb223
          clear hb223 hHeld220
          go_simp
          refine hK.out _ _ hS221 (fun hHeld224 => ?_)
          clear hK K hS221
          try simp only [Act.put, List.setIfInBounds_toArray, List.set_cons_zero, List.set_cons_succ]
          refine held_one (i := 21) rfl (by as_aux_lemma => kernel_rfl) (fun K hK => ?_)
          go_simp
          go_at_call 44
          refine (HciS.out (some ⟨b0, o0, none⟩) cL _ (Hgl.out.below (Hpr.out _ hHeld224))).mono ?_
          rintro e v226 ⟨rfl, hb227⟩
          have hS225 := held_on Hmk.out hHeld224 (fun h => Hpr.out _ h) hb227
          clear hb227 hHeld224
          go_simp
          refine hK.out _ _ hS225 (fun hHeld228 => ?_)
          clear hK K hS225
          try simp only [Act.put, List.setIfInBounds_toArray, List.set_cons_zero, List.set_cons_succ]
          first | (refine held_take (i := 22) (v := ?_) rfl (by as_aux_lemma => kernel_rfl) (fun _ _ _ h => h) (by rfl) ?_ hHeld228 ?_; rotate_left; · (intro w' hSw; go_split_ands; go_simp; try with_reducible rfl)) | (refine held_skip (i := 22) rfl (by as_aux_lemma => kernel_rfl) (fun _ _ _ h => h) (by rfl) hHeld228 ?_)
          try simp only [Act.put, List.setIfInBounds_toArray, List.set_cons_zero, List.set_cons_succ]
          as_aux_lemma =>
          first | (refine held_take (i := 23) (v := ?_) rfl (by as_aux_lemma => kernel_rfl) (fun _ _ _ h => h) (by rfl) ?_ hHeld228 ?_; rotate_left; · (intro w' hSw; go_split_ands; go_simp; try with_reducible rfl)) | (refine held_skip (i := 23) rfl (by as_aux_lemma => kernel_rfl) (fun _ _ _ h => h) (by rfl) hHeld228 ?_)
          try simp only [Act.put, List.setIfInBounds_toArray, List.set_cons_zero, List.set_cons_succ]
          first | (refine held_take (i := 24) (v := ?_) rfl (by as_aux_lemma => kernel_rfl) (fun _ _ _ h => h) (by rfl) ?_ hHeld228 ?_; rotate_left; · (intro w' hSw; go_split_ands; go_simp; try with_reducible rfl)) | (refine held_skip (i := 24) rfl (by as_aux_lemma => kernel_rfl) (fun _ _ _ h => h) (by rfl) hHeld228 ?_)
          try simp only [Act.put, List.setIfInBounds_toArray, List.set_cons_zero, List.set_cons_succ]
          first | (refine held_take (i := 25) (v := ?_) rfl (by as_aux_lemma => kernel_rfl) (fun _ _ _ h => h) (by rfl) ?_ hHeld228 ?_; rotate_left; · (intro w' hSw; go_split_ands; go_simp; try with_reducible rfl)) | (refine held_skip (i := 25) rfl (by as_aux_lemma => kernel_rfl) (fun _ _ _ h => h) (by rfl) hHeld228 ?_)
          try simp only [Act.put, List.setIfInBounds_toArray, List.set_cons_zero, List.set_cons_succ]
          first | (refine held_take (i := 26) (v := ?_) rfl (by as_aux_lemma => kernel_rfl) (fun _ _ _ h => h) (by rfl) ?_ hHeld228 ?_; rotate_left; · (intro w' hSw; go_split_ands; go_simp; try with_reducible rfl)) | (refine held_skip (i := 26) rfl (by as_aux_lemma => kernel_rfl) (fun _ _ _ h => h) (by rfl) hHeld228 ?_)
          try simp only [Act.put, List.setIfInBounds_toArray, List.set_cons_zero, List.set_cons_succ]
          refine held_done (by as_aux_lemma => kernel_rfl) ?_
          go_wp2_with fail
          go_meet
          exact ⟨rfl, Hpr.out _ hHeld228⟩
    case rest => as_aux_lemma =>
    obtain ⟨rfl, hb229⟩ := hcut
    obtain ⟨w25, hu0⟩ : ∃ u, u = wc := ⟨_, rfl⟩
    subst hu0
    have hB230 : Below w.heap.size w w25 := hB193x.out.trans (hb229.mono hB193x.out.size)
    have hB230x := Lib.hid hB230; clear hB230
    have HG231 := Lib.hid (HG194.out.below hb229)
    clear HG194
    have HR232 := Lib.hid (HR195.out.below hb229)
    clear HR195
    have K233 := Lib.hid (K196.out.below hb229 K196.out.lt); clear K196
    have K234 := Lib.hid (K197.out.below hb229 K197.out.lt); clear K197
    clear hb229
    go_upto_if 175 with fail
    go_cut [] from 30 (fun wx => Below w25.heap.size w25 wx)
    case first => as_aux_lemma =>
      have hA235 := Lib.hid (Below.refl w25.heap.size w25)
      cases FOUR with
      | false => as_aux_lemma =>
        go_wp2
        go_meet
        exact hA235.out
      | true => as_aux_lemma =>
        obtain ⟨k1, k2, k3, k4⟩ := HfB.out (by first | exact rfl | trivial)
        subst k1; subst k2; subst k3; subst k4
        go_wp2_with fail
        refine (HciPC.out aP cP w25 (HG231.out aP P (by simp))).mono ?_
        rintro e w26 ⟨rfl, hb236⟩
        have hB237 : Below w.heap.size w w26 := hB230x.out.trans (hb236.mono hB230x.out.size)
        have hB237x := Lib.hid hB237; clear hB237
        have HG238 := Lib.hid (HG231.out.below hb236)
        clear HG231
        have HR239 := Lib.hid (HR232.out.below hb236)
        clear HR232
        have K240 := Lib.hid (K233.out.below hb236 K233.out.lt); clear K233
        have K241 := Lib.hid (K234.out.below hb236 K234.out.lt); clear K234
        have hA242 := Lib.hid (hA235.out.trans (hb236.mono hA235.out.size)); clear hA235
        clear hb236
        have hb243 : Below w26.heap.size w26 (w26.alloc (.cells #[.int .i64 S2.1, .int .i64 S2.2.1, .int .i64 S2.2.2] 46)) := (Below.refl _ _).alloc (Nat.le_refl _) _
        have hB244 : Below w.heap.size w (w26.alloc (.cells #[.int .i64 S2.1, .int .i64 S2.2.1, .int .i64 S2.2.2] 46)) := hB237x.out.trans (hb243.mono hB237x.out.size)
        have hB244x := Lib.hid hB244; clear hB244
        have HG245 := Lib.hid (HG238.out.below hb243)
        clear HG238
        have HR246 := Lib.hid (HR239.out.below hb243)
        clear HR239
        have K247 := Lib.hid (K240.out.below hb243 K240.out.lt); clear K240
        have K248 := Lib.hid (K241.out.below hb243 K241.out.lt); clear K241
        have hA249 := Lib.hid (hA242.out.trans (hb243.mono hA242.out.size)); clear hA242
        clear hb243
        have K250 := Lib.hid (show Blk (w26.alloc (.cells #[.int .i64 S2.1, .int .i64 S2.2.1, .int .i64 S2.2.2] 46)) w26.heap.size 46 #[.int .i64 S2.1, .int .i64 S2.2.1, .int .i64 S2.2.2] from Blk.new w26 _ _)
        as_aux_lemma =>
        go_wp2_with fail
        refine (HciBC.out a59 c60 (w26.alloc (.cells #[.int .i64 S2.1, .int .i64 S2.2.1, .int .i64 S2.2.2] 46)) (HG245.out a59 Bd (by simp))).mono ?_
        rintro e w27 ⟨rfl, hb251⟩
        have hB252 : Below w.heap.size w w27 := hB244x.out.trans (hb251.mono hB244x.out.size)
        have hB252x := Lib.hid hB252; clear hB252
        have HG253 := Lib.hid (HG245.out.below hb251)
        clear HG245
        have HR254 := Lib.hid (HR246.out.below hb251)
        clear HR246
        have K255 := Lib.hid (K247.out.below hb251 K247.out.lt); clear K247
        have K256 := Lib.hid (K248.out.below hb251 K248.out.lt); clear K248
        have K257 := Lib.hid (K250.out.below hb251 K250.out.lt); clear K250
        have hA258 := Lib.hid (hA249.out.trans (hb251.mono hA249.out.size)); clear hA249
        clear hb251
        have hb259 : Below w27.heap.size w27 (w27.alloc (.cells #[.int .i64 S2.1, .int .i64 S2.2.1, .int .i64 S2.2.2] 46)) := (Below.refl _ _).alloc (Nat.le_refl _) _
        have hB260 : Below w.heap.size w (w27.alloc (.cells #[.int .i64 S2.1, .int .i64 S2.2.1, .int .i64 S2.2.2] 46)) := hB252x.out.trans (hb259.mono hB252x.out.size)
        have hB260x := Lib.hid hB260; clear hB260
        have HG261 := Lib.hid (HG253.out.below hb259)
        clear HG253
        have HR262 := Lib.hid (HR254.out.below hb259)
        clear HR254
        have K263 := Lib.hid (K255.out.below hb259 K255.out.lt); clear K255
        have K264 := Lib.hid (K256.out.below hb259 K256.out.lt); clear K256
        have K265 := Lib.hid (K257.out.below hb259 K257.out.lt); clear K257
        have hA266 := Lib.hid (hA258.out.trans (hb259.mono hA258.out.size)); clear hA258
        clear hb259
        have K267 := Lib.hid (show Blk (w27.alloc (.cells #[.int .i64 S2.1, .int .i64 S2.2.1, .int .i64 S2.2.2] 46)) w27.heap.size 46 #[.int .i64 S2.1, .int .i64 S2.2.1, .int .i64 S2.2.2] from Blk.new w27 _ _)
        go_wp2_with fail
        refine (HciBP.out a59 c60 (w27.alloc (.cells #[.int .i64 S2.1, .int .i64 S2.2.1, .int .i64 S2.2.2] 46)) (HG261.out a59 Bd (by simp))).mono ?_
        rintro e w28 ⟨rfl, hb268⟩
        have hB269 : Below w.heap.size w w28 := hB260x.out.trans (hb268.mono hB260x.out.size)
        have hB269x := Lib.hid hB269; clear hB269
        have HG270 := Lib.hid (HG261.out.below hb268)
        clear HG261
        have HR271 := Lib.hid (HR262.out.below hb268)
        clear HR262
        have K272 := Lib.hid (K263.out.below hb268 K263.out.lt); clear K263
        have K273 := Lib.hid (K264.out.below hb268 K264.out.lt); clear K264
        have K274 := Lib.hid (K265.out.below hb268 K265.out.lt); clear K265
        have K275 := Lib.hid (K267.out.below hb268 K267.out.lt); clear K267
        have hA276 := Lib.hid (hA266.out.trans (hb268.mono hA266.out.size)); clear hA266
        clear hb268
        obtain ⟨q277_0, q277_1, q277_2, q277_3, q277_4, q277_5⟩ := K274.out.six
        obtain ⟨q278_0, q278_1, q278_2, q278_3, q278_4, q278_5⟩ := K275.out.six
        go_wp2_with fail
        refine (HciBS.out a59 c60 w28 (HG270.out a59 Bd (by simp))).mono ?_
        rintro e w29 ⟨rfl, hb279⟩
        have hB280 : Below w.heap.size w w29 := hB269x.out.trans (hb279.mono hB269x.out.size)
        have hB280x := Lib.hid hB280; clear hB280
        have HG281 := Lib.hid (HG270.out.below hb279)
        clear HG270
        have HR282 := Lib.hid (HR271.out.below hb279)
        clear HR271
        have K283 := Lib.hid (K272.out.below hb279 K272.out.lt); clear K272
        have K284 := Lib.hid (K273.out.below hb279 K273.out.lt); clear K273
        have K285 := Lib.hid (K274.out.below hb279 K274.out.lt); clear K274
        have K286 := Lib.hid (K275.out.below hb279 K275.out.lt); clear K275
        have hA287 := Lib.hid (hA276.out.trans (hb279.mono hA276.out.size)); clear hA276
        clear hb279
        clear q277_0 q277_1 q277_2 q277_3 q277_4 q277_5 q278_0 q278_1 q278_2 q278_3 q278_4 q278_5
        go_wp2_with fail
        refine (HciPS.out aP cP w29 (HG281.out aP P (by simp))).mono ?_
        rintro e w30 ⟨rfl, hb288⟩
        have hB289 : Below w.heap.size w w30 := hB280x.out.trans (hb288.mono hB280x.out.size)
        have hB289x := Lib.hid hB289; clear hB289
        have HG290 := Lib.hid (HG281.out.below hb288)
        clear HG281
        have HR291 := Lib.hid (HR282.out.below hb288)
        clear HR282
        have K292 := Lib.hid (K283.out.below hb288 K283.out.lt); clear K283
        have K293 := Lib.hid (K284.out.below hb288 K284.out.lt); clear K284
        have K294 := Lib.hid (K285.out.below hb288 K285.out.lt); clear K285
        have K295 := Lib.hid (K286.out.below hb288 K286.out.lt); clear K286
        have hA296 := Lib.hid (hA287.out.trans (hb288.mono hA287.out.size)); clear hA287
        clear hb288
        go_wp2_with fail
        go_meet
        exact hA296.out
    case rest => as_aux_lemma =>
    have hb297 := hcut; clear hcut
    obtain ⟨w31, hu0⟩ : ∃ u, u = wc := ⟨_, rfl⟩
    subst hu0
    have hB298 : Below w.heap.size w w31 := hB230x.out.trans (hb297.mono hB230x.out.size)
    have hB298x := Lib.hid hB298; clear hB298
    have HG299 := Lib.hid (HG231.out.below hb297)
    clear HG231
    have HR300 := Lib.hid (HR232.out.below hb297)
    clear HR232
    have K301 := Lib.hid (K233.out.below hb297 K233.out.lt); clear K233
    have K302 := Lib.hid (K234.out.below hb297 K234.out.lt); clear K234
    clear hb297
    cases SEVEN with
    | false => as_aux_lemma =>
      go_wp2
      go_ret
      exact ⟨rfl, hB298x.out⟩
    | true => as_aux_lemma =>
      as_aux_lemma =>
      go_wp2_with fail
      refine (HcsMP.out am cm w31 (HR300.out.get am m (by simp))).mono ?_
      rintro e w32 ⟨rfl, hb303⟩
      have hB304 : Below w.heap.size w w32 := hB298x.out.trans (hb303.mono hB298x.out.size)
      have hB304x := Lib.hid hB304; clear hB304
      have HG305 := Lib.hid (HG299.out.below hb303)
      clear HG299
      have HR306 := Lib.hid (HR300.out.below hb303)
      clear HR300
      have K307 := Lib.hid (K301.out.below hb303 K301.out.lt); clear K301
      have K308 := Lib.hid (K302.out.below hb303 K302.out.lt); clear K302
      clear hb303
      by_cases hPM : PM = 1
      · as_aux_lemma =>
        obtain ⟨k1, k2⟩ := HfM.out (by first | exact rfl | trivial) hPM
        subst k1; subst hPM; subst k2
        go_wp2_with fail
        refine (HciYC.out a87 c88 w32 (HG305.out a87 Y (by simp))).mono ?_
        rintro e w33 ⟨rfl, hb309⟩
        have hB310 : Below w.heap.size w w33 := hB304x.out.trans (hb309.mono hB304x.out.size)
        have hB310x := Lib.hid hB310; clear hB310
        have HG311 := Lib.hid (HG305.out.below hb309)
        clear HG305
        have HR312 := Lib.hid (HR306.out.below hb309)
        clear HR306
        have K313 := Lib.hid (K307.out.below hb309 K307.out.lt); clear K307
        have K314 := Lib.hid (K308.out.below hb309 K308.out.lt); clear K308
        clear hb309
        have hb315 : Below w33.heap.size w33 (w33.alloc (.cells #[.int .i64 S3.1, .int .i64 S3.2.1, .int .i64 S3.2.2] 46)) := (Below.refl _ _).alloc (Nat.le_refl _) _
        have hB316 : Below w.heap.size w (w33.alloc (.cells #[.int .i64 S3.1, .int .i64 S3.2.1, .int .i64 S3.2.2] 46)) := hB310x.out.trans (hb315.mono hB310x.out.size)
        have hB316x := Lib.hid hB316; clear hB316
        have HG317 := Lib.hid (HG311.out.below hb315)
        clear HG311
        have HR318 := Lib.hid (HR312.out.below hb315)
        clear HR312
        have K319 := Lib.hid (K313.out.below hb315 K313.out.lt); clear K313
        have K320 := Lib.hid (K314.out.below hb315 K314.out.lt); clear K314
        clear hb315
        have K321 := Lib.hid (show Blk (w33.alloc (.cells #[.int .i64 S3.1, .int .i64 S3.2.1, .int .i64 S3.2.2] 46)) w33.heap.size 46 #[.int .i64 S3.1, .int .i64 S3.2.1, .int .i64 S3.2.2] from Blk.new w33 _ _)
        go_upto_region 26 with fail
        obtain ⟨W3, hW3⟩ : ∃ W3, (w33.alloc (.cells #[.int .i64 S3.1, .int .i64 S3.2.1, .int .i64 S3.2.2] 46)) = W3 := ⟨_, rfl⟩
        clear hW3
        have Hmk := Lib.hid (fun (w2 : World) (h : Below (w33.alloc (.cells #[.int .i64 S3.1, .int .i64 S3.2.1, .int .i64 S3.2.2] 46)).heap.size (w33.alloc (.cells #[.int .i64 S3.1, .int .i64 S3.2.1, .int .i64 S3.2.2] 46)) w2) => show w2.cell? ⟨w33.heap.size, 0, none⟩ = some (.int .i64 S3.1) ∧ w2.cell? ⟨w33.heap.size, 1, none⟩ = some (.int .i64 S3.2.1) ∧ w2.cell? ⟨w33.heap.size, 2, none⟩ = some (.int .i64 S3.2.2) ∧ Below (w33.alloc (.cells #[.int .i64 S3.1, .int .i64 S3.2.1, .int .i64 S3.2.2] 46)).heap.size (w33.alloc (.cells #[.int .i64 S3.1, .int .i64 S3.2.1, .int .i64 S3.2.2] 46)) w2 from ⟨(K321.out.below h K321.out.lt).cell 0, (K321.out.below h K321.out.lt).cell 1, (K321.out.below h K321.out.lt).cell 2, h⟩)
        have Hpr := Lib.hid (fun (w2 : World) (h : w2.cell? ⟨w33.heap.size, 0, none⟩ = some (.int .i64 S3.1) ∧ w2.cell? ⟨w33.heap.size, 1, none⟩ = some (.int .i64 S3.2.1) ∧ w2.cell? ⟨w33.heap.size, 2, none⟩ = some (.int .i64 S3.2.2) ∧ Below (w33.alloc (.cells #[.int .i64 S3.1, .int .i64 S3.2.1, .int .i64 S3.2.2] 46)).heap.size (w33.alloc (.cells #[.int .i64 S3.1, .int .i64 S3.2.1, .int .i64 S3.2.2] 46)) w2) => h.2.2.2)
        refine held_begin (S := fun w' => w'.cell? ⟨w33.heap.size, 0, none⟩ = some (.int .i64 S3.1) ∧ w'.cell? ⟨w33.heap.size, 1, none⟩ = some (.int .i64 S3.2.1) ∧ w'.cell? ⟨w33.heap.size, 2, none⟩ = some (.int .i64 S3.2.2) ∧ Below (w33.alloc (.cells #[.int .i64 S3.1, .int .i64 S3.2.1, .int .i64 S3.2.2] 46)).heap.size (w33.alloc (.cells #[.int .i64 S3.1, .int .i64 S3.2.1, .int .i64 S3.2.2] 46)) w') 9 (by kernel_rfl) rfl ?_ (fun hHeld => ?_)
        · exact Hmk.out _ (Below.drew (Below.refl _ _))
        try simp only [Array.replicate]
        first | (refine held_take (i := 0) (v := ?_) rfl (by as_aux_lemma => kernel_rfl) (fun _ _ _ h => h) (by rfl) ?_ hHeld ?_; rotate_left; · (intro w' hSw; go_split_ands; go_simp; try with_reducible rfl)) | (refine held_skip (i := 0) rfl (by as_aux_lemma => kernel_rfl) (fun _ _ _ h => h) (by rfl) hHeld ?_)
        try simp only [Act.put, List.setIfInBounds_toArray, List.set_cons_zero, List.set_cons_succ]
        first | (refine held_take (i := 1) (v := ?_) rfl (by as_aux_lemma => kernel_rfl) (fun _ _ _ h => h) (by rfl) ?_ hHeld ?_; rotate_left; · (intro w' hSw; go_split_ands; go_simp; try with_reducible rfl)) | (refine held_skip (i := 1) rfl (by as_aux_lemma => kernel_rfl) (fun _ _ _ h => h) (by rfl) hHeld ?_)
        try simp only [Act.put, List.setIfInBounds_toArray, List.set_cons_zero, List.set_cons_succ]
        first | (refine held_take (i := 2) (v := ?_) rfl (by as_aux_lemma => kernel_rfl) (fun _ _ _ h => h) (by rfl) ?_ hHeld ?_; rotate_left; · (intro w' hSw; go_split_ands; go_simp; try with_reducible rfl)) | (refine held_skip (i := 2) rfl (by as_aux_lemma => kernel_rfl) (fun _ _ _ h => h) (by rfl) hHeld ?_)
        try simp only [Act.put, List.setIfInBounds_toArray, List.set_cons_zero, List.set_cons_succ]
        first | (refine held_take (i := 3) (v := ?_) rfl (by as_aux_lemma => kernel_rfl) (fun _ _ _ h => h) (by rfl) ?_ hHeld ?_; rotate_left; · (intro w' hSw; go_split_ands; go_simp; try with_reducible rfl)) | (refine held_skip (i := 3) rfl (by as_aux_lemma => kernel_rfl) (fun _ _ _ h => h) (by rfl) hHeld ?_)
        try simp only [Act.put, List.setIfInBounds_toArray, List.set_cons_zero, List.set_cons_succ]
        first | (refine held_take (i := 4) (v := ?_) rfl (by as_aux_lemma => kernel_rfl) (fun _ _ _ h => h) (by rfl) ?_ hHeld ?_; rotate_left; · (intro w' hSw; go_split_ands; go_simp; try with_reducible rfl)) | (refine held_skip (i := 4) rfl (by as_aux_lemma => kernel_rfl) (fun _ _ _ h => h) (by rfl) hHeld ?_)
        try simp only [Act.put, List.setIfInBounds_toArray, List.set_cons_zero, List.set_cons_succ]
        refine held_one (i := 5) rfl (by as_aux_lemma => kernel_rfl) (fun K hK => ?_)
        go_simp
        go_at_call 49
        refine (HcsMG.out am cm _ ((HR318.out.get am m (by simp)).below (Hpr.out _ hHeld))).mono ?_
        rintro e v323 ⟨rfl, hb324⟩
        have hS322 := held_on Hmk.out hHeld (fun h => Hpr.out _ h) hb324
        clear hb324 hHeld
        go_simp
        refine hK.out _ _ hS322 (fun hHeld325 => ?_)
        clear hK K hS322
        try simp only [Act.put, List.setIfInBounds_toArray, List.set_cons_zero, List.set_cons_succ]
        first | (refine held_take (i := 6) (v := ?_) rfl (by as_aux_lemma => kernel_rfl) (fun _ _ _ h => h) (by rfl) ?_ hHeld325 ?_; rotate_left; · (intro w' hSw; go_split_ands; go_simp; try with_reducible rfl)) | (refine held_skip (i := 6) rfl (by as_aux_lemma => kernel_rfl) (fun _ _ _ h => h) (by rfl) hHeld325 ?_)
        try simp only [Act.put, List.setIfInBounds_toArray, List.set_cons_zero, List.set_cons_succ]
        first | (refine held_take (i := 7) (v := ?_) rfl (by as_aux_lemma => kernel_rfl) (fun _ _ _ h => h) (by rfl) ?_ hHeld325 ?_; rotate_left; · (intro w' hSw; go_split_ands; go_simp; try with_reducible rfl)) | (refine held_skip (i := 7) rfl (by as_aux_lemma => kernel_rfl) (fun _ _ _ h => h) (by rfl) hHeld325 ?_)
        try simp only [Act.put, List.setIfInBounds_toArray, List.set_cons_zero, List.set_cons_succ]
        first | (refine held_take (i := 8) (v := ?_) rfl (by as_aux_lemma => kernel_rfl) (fun _ _ _ h => h) (by rfl) ?_ hHeld325 ?_; rotate_left; · (intro w' hSw; go_split_ands; go_simp; try with_reducible rfl)) | (refine held_skip (i := 8) rfl (by as_aux_lemma => kernel_rfl) (fun _ _ _ h => h) (by rfl) hHeld325 ?_)
        try simp only [Act.put, List.setIfInBounds_toArray, List.set_cons_zero, List.set_cons_succ]
        refine held_done (by as_aux_lemma => kernel_rfl) ?_
        go_wp2
        go_ret
        exact ⟨by simp, hB316x.out.trans ((Hpr.out _ hHeld325).mono hB316x.out.size)⟩
      · as_aux_lemma =>
        have t1 : (PM == 1) = false := beq_eq_false_iff_ne.2 hPM
        clear hPM
        go_wp2
        go_ret
        exact ⟨rfl, hB304x.out⟩

set_option maxRecDepth 100000 in
theorem contract (H : Type) (enc : TypeId × Value → H) (W : World) (base : Nat) (args : Array Value) (ds gs : List (DataW H)) (before : List MemPlace)
    (hval : ∀ (j : Nat) t v, Tryz.f4.params[j]? = some t → args[j]? = some v → Value.okWide Tryz.prog W .any base t v)
    (hW : DataW.Whole enc Tryz.prog Tryz.f4.params.toList Rows.fnBranchesSpec.vars false W args.toList ds gs before) :
    Calls Tryz.prog 4 args W fun e W' => ∃ v, e = .returned v ∧ Rows.fnBranchesSpec.post enc Tryz.prog Tryz.f4 false true false false W args v W' := by
  have hW' := hW
  obtain ⟨p, q, hA0, hV, rfl, hfz, hnd⟩ := hW
  have hA : DataW.TrodAll enc Tryz.prog W 0 (fun _ => true) true Tryz.f4.params.toList args.toList ds p := hA0
  rw [Tryz.params4] at hA hval
  obtain ⟨v0, vs0, d0, ds0, p0, q0, hargs, rfl, rfl, h0, r0⟩ := trodAll_cons hA
  obtain ⟨rfl, rfl, rfl⟩ := trodAll_nil r0
  obtain rfl : args = #[v0] := by cases args; simp_all
  obtain ⟨rfl, rfl⟩ := trodVars_none hV
  have k0 := h0
  obtain ⟨acode, ccode, lcode, rfl, wcode⟩ := Read.bytes_of (hval 0 22 v0 rfl rfl) h0
  clear hA0
  simp only [List.append_nil] at hW'
  refine (law acode ccode lcode W wcode).mono fun e W' ⟨he, hg⟩ => ?_
  subst he
  exact ⟨_, rfl, post_of_below (pv := []) hW' (fun _ _ _ => trodAll_cons_mk (shut_bool Tryz.underlying4 _) trodAll_mk0)
    (fun sp hs => trodAll_cons_mk (trod_keeps (t := 22) (by kernel_rfl) (by kernel_rfl) (by kernel_rfl) k0 hg (fun x hx => hW'.lt x (by simp_all)) (fun x hx => hs x (by simp_all))) (trodAll_mk0))
    (fun _ _ => rfl) (by simp) hg (ok_one (by kernel_rfl) rfl (okWide_bool_mk Tryz.underlying4 _))⟩

theorem reads (os : Os) {H : Type} (enc : TypeId × Value → H) : ∃ places, DataW.whole enc Tryz.prog ((World.holding Tryz.prog os ⟨#[], #[], []⟩).forCall (fun _ _ => 0) ⟨#[], #[.slice none 0 0], []⟩).memory Tryz.f4.params.toList Rows.fnBranchesSpec.vars false (#[.slice none 0 0] : Array Value).toList 8 = some ([.nil], [], places) :=
  ⟨[], by kernel_rfl⟩

set_option maxRecDepth 100000 in
theorem lifted (os : Os) (started : os.Started) (H : Type) (enc : TypeId × Value → H) (F : Stop.Interp) :
    ReturnsInHanded {} Tryz.checked os 4 .any ((OpenSpec.ofChange Rows.fnBranchesSpec).preRow enc Tryz.prog Tryz.f4 Rows.fnBranchesRow.domain false Rows.fnBranchesRow.laid) (((OpenSpec.ofChange Rows.fnBranchesSpec).at F).post enc Tryz.prog Tryz.f4 false true false false) := by
  obtain ⟨places, hx⟩ := reads os enc
  refine returnsInHanded_of_row (C := Tryz.checked) (s := OpenSpec.ofChange Rows.fnBranchesSpec) Low.own started (by kernel_rfl) Tryz.func4
    (witness_row_at (enc := enc) (C := Tryz.checked) false (World.holding Tryz.prog os ⟨#[], #[], []⟩) #[.slice none 0 0] rfl (by kernel_rfl) (by kernel_rfl) (by kernel_rfl)
      (OpenSpec.preRow_of_cond 8 hx (by kernel_rfl) (fun k hk => by cases hk) (by kernel_rfl) (laidMet_nil _ _))) ?_
  intro W base args ds gs before hval hW _ _ _ hL hShaped _
  exact contract H enc W base args ds gs before hval hW 

theorem said : Rows.FnBranchesSaid :=
  OpenClaim.holds_of_cond 4 Tryz.f4 rfl rfl rfl rfl rfl rfl rfl ⟨rfl, rfl, rfl, rfl, rfl⟩ rfl rfl rfl rfl rfl (by kernel_rfl) Tryz.func4 (by kernel_rfl)
    (of_decide_eq_true (by kernel_rfl)) (by unfold Func.isWrapper; first | (rw [if_pos (by decide +kernel)]; kernel_rfl) | (rw [if_neg (by decide +kernel)]; exact ⟨rfl, rfl⟩))
    (fun os started H enc _ F => by rw [OpenClaim.pre_eq_preRow]; exact lifted os started H enc F)
end Go.Proofs.YtpebgompfgkljaaGreat.fnBranches
