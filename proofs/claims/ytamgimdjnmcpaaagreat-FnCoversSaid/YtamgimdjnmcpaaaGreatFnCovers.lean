/-
  For every draw: covers, sheets, lifts and counts are as the other program says; lengths of lifts sum up to the sheets; counts stand in the table; the Euler numbers of covers are as many times that of the surface below; symmetries divide the degree.
-/
import Derived.Test.YtamgimdjnmcpaaaGreatBase
import Derived.Test.YtamgimdjnmcpaaaGreatLow
import Derived.Test.YtamgimdjnmcpaaaGreatSlice
import Derived.Test.YtamgimdjnmcpaaaGreatIntRow
import Derived.Test.YtamgimdjnmcpaaaGreatInts
import Derived.Test.YtamgimdjnmcpaaaGreatOwn
import Derived.Test.YtamgimdjnmcpaaaGreatGrid
import Derived.Test.YtamgimdjnmcpaaaGreatGridRows
import Derived.Test.YtamgimdjnmcpaaaGreatWord
import Derived.Test.YtamgimdjnmcpaaaGreatSurf
import Derived.Test.YtamgimdjnmcpaaaGreatCov
import Derived.Test.YtamgimdjnmcpaaaGreatCovA
import Derived.Test.YtamgimdjnmcpaaaGreatCovD
import Derived.Test.YtamgimdjnmcpaaaGreatCovS
import Derived.Test.YtamgimdjnmcpaaaGreatCovN
import Derived.Test.YtamgimdjnmcpaaaGreatCovV
import Derived.Test.YtamgimdjnmcpaaaGreatAdTot
import Derived.Test.YtamgimdjnmcpaaaGreatDraw
import Derived.Test.YtamgimdjnmcpaaaGreatDrawMap
import Derived.Test.YtamgimdjnmcpaaaGreatDrawBr
import Derived.Test.YtamgimdjnmcpaaaGreatReadBytes
import Derived.Test.YtamgimdjnmcpaaaGreatSame
import Derived.Test.YtamgimdjnmcpaaaGreatHead
import Derived.Deep.DeepWitnessRowRef
import Derived.OpenShut
import Derived.Deep.DeepHandedRow
import Derived.LaidMore
namespace Go.Proofs.YtamgimdjnmcpaaaGreat.fnCovers
open Go.ChangeShapes Go.WideShapes Go.ChangeAt Go.RowKit Go.Sort
open Go.ChangeMaps (open_string)

def Done (w : World) (e : Ending) (w' : World) : Prop := e = .returned (.bool true) ∧ Below w.heap.size w w'
def Grids (w : World) (gs : List (Option Addr × List (List Int))) : Prop := ∀ a L, (a, L) ∈ gs → GridAt w a L
theorem Grids.nil (w : World) : Grids w [] := fun _ _ h => by cases h
theorem Grids.below {w w' : World} {gs : List (Option Addr × List (List Int))} (h : Grids w gs) (hb : Below w.heap.size w w') : Grids w' gs := fun a L hm => (h a L hm).below hb
theorem Grids.cons {w : World} {gs : List (Option Addr × List (List Int))} (h : Grids w gs) {a : Option Addr} {L : List (List Int)} (hg : GridAt w a L) : Grids w ((a, L) :: gs) := fun b M hm => by
  rcases List.mem_cons.1 hm with e | hm
  · cases e; exact hg
  · exact h b M hm
theorem held_on {S : World → Prop} {W0 W v : World} (mk : ∀ w2, Below W0.heap.size W0 w2 → S w2) (h : S W) (pr : S W → Below W0.heap.size W0 W) (hb : Below W.heap.size W v) : S v := mk v ((pr h).trans (hb.mono (pr h).size))
theorem held_skip {P : Program} {Q : Exit → Act → World → Prop} {md : Region.Mode} {S : World → Prop} {i : Nat} {l0 r : List Oper} {oi : Oper} {f : Nat} {listed : Array Bool} {a : Act} {w : World} (hd : l0.drop i = oi :: r)
    (hb : (Region.noSelect l0.toArray && Region.free md l0.toArray listed i && (Region.ready md l0.toArray listed).contains i) = true)
    (hQ : ∀ c a w, Q (.panic c) (a.put oi.dst undef) w → Q (.panic c) a w) (hw : Region.wanted oi (yielded l0.toArray a.tmps) = false) (hS : S w)
    (h : wpAnyH P md l0.toArray Q S f (listed.setIfInBounds i true) (a.put oi.dst undef) w) : wpAnyH P md l0.toArray Q S (f + 1) listed a w := by
  simp only [Bool.and_eq_true] at hb
  exact wpAnyH_take (drop_at hd) hb.1.1 hb.1.2 hb.2 hQ (Or.inr ⟨hw, rfl⟩) hS h
theorem rows_small {L : List (List Int)} (h : ∀ p ∈ L, p.length ≤ 10) : ∀ p ∈ L, p.length ≤ 1048576 := fun p hp => Nat.le_trans (h p hp) (by decide)
theorem tot_mill {L : List (List Int)} (h : tot L ≤ 1000000) : tot L ≤ 1048576 := Nat.le_trans h (by decide)
theorem below_allocs4 (w : World) (a b c d : Obj) : Below w.heap.size w ((((w.alloc a).alloc b).alloc c).alloc d) := by
  have h1 := (Below.refl w.heap.size w).alloc (Nat.le_refl _) a
  have h2 := h1.alloc h1.size b
  have h3 := h2.alloc h2.size c
  exact h3.alloc h3.size d
theorem cov_len (G : Int) (L : List (List Int)) : (Cv.covers G L).length ≤ 1000000 := by
  unfold Cv.covers
  split
  · rename_i hq
    rw [List.length_map]
    exact Nat.le_trans (Nat.le_trans Cv.parts_few hq.2.1.2.2.2.2) (by decide)
  · simp
theorem le_sum : ∀ {l : List Int} (_ : ∀ x ∈ l, 0 ≤ x), 0 ≤ l.sum ∧ ∀ x ∈ l, x ≤ l.sum
  | [], _ => ⟨by simp, fun x hx => by cases hx⟩
  | y :: l, h => by
    have h1 := h y (List.mem_cons_self ..)
    have h2 := le_sum (l := l) fun x hx => h x (List.mem_cons_of_mem _ hx)
    refine ⟨by rw [List.sum_cons]; omega, fun x hx => ?_⟩
    rw [List.sum_cons]
    rcases List.mem_cons.1 hx with rfl | hx
    · omega
    · have := h2.2 x hx; omega
theorem lifts_small (L : List (List Int)) (l : List Int) : ∀ x ∈ Cv.lifts L l, 0 ≤ x ∧ x ≤ 100 := by
  have h0 : ∀ x ∈ Cv.lifts L l, 0 ≤ x := by
    intro x hx
    unfold Cv.lifts at hx
    split at hx
    · obtain ⟨c, _, rfl⟩ := List.mem_map.1 (List.mem_mergeSort.1 hx)
      omega
    · cases hx
  have h1 := le_sum h0
  rw [Cv.lifts_sum] at h1
  have h5 := Cv.actW_len5 L l
  intro x hx
  have := h1.2 x hx
  exact ⟨h0 x hx, by omega⟩
theorem sum_ten : ∀ {l : List Int} (_ : ∀ x ∈ l, -10 ≤ x ∧ x ≤ 10), -10 * (l.length : Int) ≤ l.sum ∧ l.sum ≤ 10 * (l.length : Int)
  | [], _ => by simp
  | x :: l, h => by
    have h1 := h x (List.mem_cons_self ..)
    have h2 := sum_ten (l := l) fun y hy => h y (List.mem_cons_of_mem _ hy)
    simp only [List.sum_cons, List.length_cons, Int.natCast_add]
    have : ((1 : Nat) : Int) = 1 := rfl
    omega
def partSum (G : Int) (L : List (List Int)) (k : Nat) : Int := (((Cv.covers G L).map Cv.euler3).take k).sum
theorem tab_law : ∀ a m v : Int, (a, m, v) ∈ ([(0, 1, 1), (0, 2, 4), (0, 3, 36), (1, 1, 1), (1, 2, 4), (1, 3, 18), (2, 1, 1), (2, 2, 16), (2, 3, 486)] : List (Int × Int × Int)) → Cv.acts a m = v := by
  obtain ⟨⟨h1, h2, h3⟩, ⟨h4, h5, h6⟩, h7, h8, h9⟩ := Cv.table
  intro a m v h
  rcases List.mem_cons.1 h with h | h
  · cases h; exact h1
  rcases List.mem_cons.1 h with h | h
  · cases h; exact h2
  rcases List.mem_cons.1 h with h | h
  · cases h; exact h3
  rcases List.mem_cons.1 h with h | h
  · cases h; exact h4
  rcases List.mem_cons.1 h with h | h
  · cases h; exact h5
  rcases List.mem_cons.1 h with h | h
  · cases h; exact h6
  rcases List.mem_cons.1 h with h | h
  · cases h; exact h7
  rcases List.mem_cons.1 h with h | h
  · cases h; exact h8
  rcases List.mem_cons.1 h with h | h
  · cases h; exact h9
  cases h
theorem cov_law {G : Int} {L : List (List Int)} (h : decide (Cv.Act G L) = true) :
    (0 ≤ G ∧ G ≤ 2) ∧ (Cv.covers G L).length = (Cv.parts L).length ∧ (Cv.parts L).length ≤ 5 ∧ 1 ≤ L.length ∧ Cv.deg L ≤ 5 ∧ partSum G L 0 = 0 ∧ partSum G L (Cv.covers G L).length = Cv.base G * (Cv.deg L : Int) ∧
    (∀ k : Nat, k < (Cv.covers G L).length → ∃ (x y z : Int) (p : List Int), (Cv.covers G L)[k]? = some (x, y, z) ∧ (Cv.parts L)[k]? = some p ∧ I64s [x, y, z] ∧ p.length ≤ 5 ∧ Surf.euler x y z = Cv.base G * (p.length : Int) ∧ partSum G L (k + 1) = partSum G L k + Surf.euler x y z ∧ -50 ≤ partSum G L k ∧ partSum G L k ≤ 50) ∧
    ((Cv.parts L).length = 1 → 1 ≤ Cv.symms L ∧ Int.tmod (Cv.deg L : Int) (Cv.symms L) = 0) := by
  have hact := of_decide_eq_true h
  obtain ⟨hg, hP, hL, _⟩ := id hact
  have h5 : Cv.deg L ≤ 5 := hP.2.2.2.2
  have hc : Cv.covers G L = (Cv.partsN L).map (Cv.coverOf G L) := if_pos hact
  have hp : Cv.parts L = Mp.natRows (Cv.partsN L) := if_pos hP
  have hn : (Cv.partsN L).length ≤ Cv.deg L := Cv.parts_few
  have hlp : (Cv.parts L).length = (Cv.partsN L).length := by rw [hp]; simp [Mp.natRows]
  have hlc : (Cv.covers G L).length = (Cv.partsN L).length := by rw [hc]; simp
  have hb : -2 ≤ Cv.base G ∧ Cv.base G ≤ 0 := by unfold Cv.base; (repeat' split) <;> omega
  have hmem : ∀ part ∈ Cv.partsN L, part.length ≤ 5 ∧ Cv.euler3 (Cv.coverOf G L part) = Cv.base G * (part.length : Int) := fun part hm => ⟨Nat.le_trans (Cv.part_of hm).2 h5, (Cv.cover_euler hact hm).1⟩
  have hten : ∀ x ∈ (Cv.covers G L).map Cv.euler3, -10 ≤ x ∧ x ≤ 10 := by
    intro x hx
    rw [hc] at hx
    obtain ⟨s, hs, rfl⟩ := List.mem_map.1 hx
    obtain ⟨part, hm, rfl⟩ := List.mem_map.1 hs
    obtain ⟨h1, h2⟩ := hmem part hm
    rw [h2]
    rcases (show Cv.base G = -2 ∨ Cv.base G = -1 ∨ Cv.base G = 0 by omega) with e | e | e <;> rw [e] <;> omega
  refine ⟨hg, by rw [hlp, hlc], by omega, hP.2.1, h5, by unfold partSum; simp, ?_, ?_, ?_⟩
  · unfold partSum
    rw [List.take_of_length_le (by rw [List.length_map]; exact Nat.le_refl _)]
    exact Cv.covers_sum hact
  · intro k hk
    have hk' : k < (Cv.partsN L).length := by omega
    have hm := List.getElem_mem hk'
    obtain ⟨h1, h2⟩ := hmem _ hm
    obtain ⟨c1, c2, c3, c4, c5, c6⟩ := Cv.cover_euler hact hm
    have hx : (Cv.covers G L)[k]? = some (Cv.coverOf G L (Cv.partsN L)[k]) := by rw [hc, List.getElem?_map, List.getElem?_eq_getElem hk']; rfl
    have hq : (Cv.parts L)[k]? = some ((Cv.partsN L)[k].map fun d => ((d : Nat) : Int)) := by rw [hp]; unfold Mp.natRows; rw [List.getElem?_map, List.getElem?_eq_getElem hk']; rfl
    generalize (Cv.partsN L)[k] = part at *
    generalize Cv.coverOf G L part = S at *
    obtain ⟨x, y, z⟩ := S
    dsimp only at c2 c3 c4 c5 c6
    have he : Surf.euler x y z = Cv.euler3 (x, y, z) := by
      unfold Surf.euler Cv.euler3
      rw [if_pos ⟨⟨c2, c3⟩, ⟨by omega, by omega⟩, ⟨c5, c6⟩, Or.inr c4⟩]
    refine ⟨x, y, z, _, hx, hq, ?_, by rw [List.length_map]; exact h1, by rw [he, h2, List.length_map], ?_, ?_, ?_⟩
    · intro v hv
      simp only [List.mem_cons, List.not_mem_nil, or_false] at hv
      omega
    · unfold partSum
      have hk2 : k < ((Cv.covers G L).map Cv.euler3).length := by rw [List.length_map]; omega
      rw [List.take_succ_eq_append_getElem hk2, List.sum_append, he]
      have : ((Cv.covers G L).map Cv.euler3)[k] = Cv.euler3 (x, y, z) := by
        have h3 : ((Cv.covers G L).map Cv.euler3)[k]? = some (Cv.euler3 (x, y, z)) := by rw [List.getElem?_map, hx]; rfl
        rw [List.getElem?_eq_getElem hk2] at h3
        exact Option.some.inj h3
      rw [this]; simp
    · unfold partSum
      have := (sum_ten (l := ((Cv.covers G L).map Cv.euler3).take k) fun x hx => hten x (List.mem_of_mem_take hx)).1
      have hl : (((Cv.covers G L).map Cv.euler3).take k).length ≤ 5 := by rw [List.length_take, List.length_map]; omega
      omega
    · unfold partSum
      have := (sum_ten (l := ((Cv.covers G L).map Cv.euler3).take k) fun x hx => hten x (List.mem_of_mem_take hx)).2
      have hl : (((Cv.covers G L).map Cv.euler3).take k).length ≤ 5 := by rw [List.length_take, List.length_map]; omega
      omega
  · intro h1
    obtain ⟨a1, a2⟩ := Cv.symms_div hP (by omega)
    exact ⟨a1, by rw [Int.tmod_eq_emod_of_nonneg (by omega)]; exact a2⟩

set_option maxRecDepth 100000 in
set_option maxHeartbeats 16000000 in
theorem law (a : Option Addr) (c : Nat) (l : List Int) (w : World) (hh : RowAt w a (byteCells l) ∧ l.length ≤ maxLen ∧ ∀ x ∈ l, 0 ≤ x ∧ x ≤ 255) :
    Calls Tryz.prog 3 #[.slice a l.length c] w (Done w) := by
  obtain ⟨ha, hl, hb⟩ := hh
  unfold maxLen at hl
  have Hb := Lib.hid hb; have Ha := Lib.hid ha
  clear hb ha
  by_cases hbig : 1048576 < l.length
  · have hd : decide (1048576 < l.length) = true := by simpa using hbig
    go_enter Tryz.func3, Tryz.ntmps3
    go_wp2_with fail
    refine (big a l.length c w (by omega)).mono ?_
    rintro e w' ⟨rfl, rfl⟩
    go_wp2
    go_ret
    exact ⟨rfl, Below.refl _ _⟩
  · have hd : decide (1048576 < l.length) = false := by simpa using hbig
    have hsz : l.length ≤ 1048576 := by omega
    have hB0 := Below.refl w.heap.size w
    have HR0 := Lib.hid (Rows.nil w)
    have HG0 := Lib.hid (Grids.nil w)
    go_enter Tryz.func3, Tryz.ntmps3
    go_wp2_with fail
    refine (big a l.length c w (by omega)).mono ?_
    rintro e w' ⟨rfl, rfl⟩
    go_wp2_with fail
    refine (drawCoverOf a c l w (Ha.out.below hB0) Hb.out hsz).mono ?_
    rintro e w2 ⟨G, aL, cL, L, rfl, hG0, hG1, hL4, hLp, hgL, hb1⟩
    have hB2 : Below w.heap.size w w2 := hB0.trans (hb1.mono hB0.size)
    have hB2x := Lib.hid hB2; clear hB2
    have HG3 := Lib.hid (Grids.cons (HG0.out.below hb1) hgL)
    clear HG0
    have HR4 := Lib.hid (HR0.out.below hb1)
    clear HR0
    clear hb1 hgL
    have HLp := Lib.hid (rows_small hLp); clear hLp
    have fC := fun (h : decide (Cv.Act G L) = true) => cov_law h
    have fH : 1 ≤ L.length → ∃ r, L[0]? = some r ∧ r.length = Cv.deg L := fun h => Cv.head_get (by omega)
    have ciC := fun (q : Option Addr) (d : Nat) (W : World) (k : GridAt W q L) => (impl_CoverOf G q d L W k HLp.out (by omega)).mono fun e w2 (h : GivesSf W (Cv.covers G L) (decide (Cv.Act G L)) e w2) => h.exact
    have csC := fun (q : Option Addr) (d : Nat) (W : World) (k : GridAt W q L) => (spec_CoverOf G q d L W k HLp.out (by omega)).mono fun e w2 (h : GivesSf W (Cv.covers G L) (decide (Cv.Act G L)) e w2) => h.exact
    have ciI := fun (q : Option Addr) (d : Nat) (W : World) (k : GridAt W q L) => impl_IsAction G q d L W k HLp.out (by omega)
    have csI := fun (q : Option Addr) (d : Nat) (W : World) (k : GridAt W q L) => spec_IsAction G q d L W k HLp.out (by omega)
    have ciS := fun (q : Option Addr) (d : Nat) (W : World) (k : GridAt W q L) => impl_SheetSymmetries q d L W k HLp.out (by omega)
    have csS := fun (q : Option Addr) (d : Nat) (W : World) (k : GridAt W q L) => spec_SheetSymmetries q d L W k HLp.out (by omega)
    have ciP := fun (q : Option Addr) (d : Nat) (W : World) (k : GridAt W q L) => impl_SheetParts q d L W k HLp.out (by omega)
    have csP := fun (q : Option Addr) (d : Nat) (W : World) (k : GridAt W q L) => spec_SheetParts q d L W k HLp.out (by omega)
    have tP := tot_mill (Cv.parts_tot L)
    have tX : (Cv.covers G L).length ≤ 1000000 := cov_len G L
    generalize decide (Cv.Act G L) = OK at *
    generalize Cv.covers G L = X at *
    generalize Cv.parts L = PT at *
    generalize Cv.symms L = SY at *
    generalize Cv.deg L = dg at *
    generalize partSum G L = PS at *
    have HfC := Lib.hid fC; have HfH := Lib.hid fH; have HciC := Lib.hid ciC; have HcsC := Lib.hid csC; have HciI := Lib.hid ciI; have HcsI := Lib.hid csI; have HciS := Lib.hid ciS; have HcsS := Lib.hid csS; have HciP := Lib.hid ciP; have HcsP := Lib.hid csP; have HtP := Lib.hid tP; have HtX := Lib.hid tX
    clear fC fH ciC csC ciI csI ciS csS ciP csP tP tX
    go_wp2_with fail
    refine (HciC.out aL cL w2 (HG3.out aL L (by simp))).mono ?_
    intro e w3 hgs; obtain ⟨a5, c6, rfl, hc9, hm10, hg7, hb8⟩ := hgs
    have hB11 : Below w.heap.size w w3 := hB2x.out.trans (hb8.mono hB2x.out.size)
    have hB11x := Lib.hid hB11; clear hB11
    have HG12 := Lib.hid (HG3.out.below hb8)
    clear HG3
    have HR13 := Lib.hid (HR4.out.below hb8)
    clear HR4
    have K14 := Lib.hid (hg7.row)
    clear hg7 hb8 hc9 hm10
    go_wp2_with fail
    refine (HcsC.out aL cL w3 (HG12.out aL L (by simp))).mono ?_
    intro e w4 hgs; obtain ⟨a15, c16, rfl, hc19, hm20, hg17, hb18⟩ := hgs
    have hB21 : Below w.heap.size w w4 := hB11x.out.trans (hb18.mono hB11x.out.size)
    have hB21x := Lib.hid hB21; clear hB21
    have HG22 := Lib.hid (HG12.out.below hb18)
    clear HG12
    have HR23 := Lib.hid (HR13.out.below hb18)
    clear HR13
    have K24 := Lib.hid (K14.out.below hb18); clear K14
    have K25 := Lib.hid (hg17.row)
    clear hg17 hb18 hc19 hm20
    as_aux_lemma =>
    go_wp2_with fail
    refine (drawActWord a c l w4 (Ha.out.below hB21x.out) Hb.out hsz).mono ?_
    rintro e w5 ⟨aM, cM, M, aW, cW, wd, rfl, hM4, hMp, hgM, hwd, hrW, hb26⟩
    have hB27 : Below w.heap.size w w5 := hB21x.out.trans (hb26.mono hB21x.out.size)
    have hB27x := Lib.hid hB27; clear hB27
    have HG28 := Lib.hid (Grids.cons (HG22.out.below hb26) hgM)
    clear HG22
    have HR29 := Lib.hid (Rows.cons (HR23.out.below hb26) hrW)
    clear HR23
    have K30 := Lib.hid (K24.out.below hb26); clear K24
    have K31 := Lib.hid (K25.out.below hb26); clear K25
    clear hb26 hgM hrW
    have HMp := Lib.hid (rows_small hMp); clear hMp
    have ciA := fun (q : Option Addr) (d : Nat) (W : World) (k : GridAt W q M) (q2 : Option Addr) (d2 : Nat) (k2 : RowAt W q2 (intCells wd)) => impl_ActWord q q2 d d2 M wd W k HMp.out (by omega) k2 (by omega)
    have csA := fun (q : Option Addr) (d : Nat) (W : World) (k : GridAt W q M) (q2 : Option Addr) (d2 : Nat) (k2 : RowAt W q2 (intCells wd)) => spec_ActWord q q2 d d2 M wd W k HMp.out (by omega) k2 (by omega)
    have ciL := fun (q : Option Addr) (d : Nat) (W : World) (k : GridAt W q M) (q2 : Option Addr) (d2 : Nat) (k2 : RowAt W q2 (intCells wd)) => impl_LiftLengths q q2 d d2 M wd W k HMp.out (by omega) k2 (by omega)
    have csL := fun (q : Option Addr) (d : Nat) (W : World) (k : GridAt W q M) (q2 : Option Addr) (d2 : Nat) (k2 : RowAt W q2 (intCells wd)) => spec_LiftLengths q q2 d d2 M wd W k HMp.out (by omega) k2 (by omega)
    have cTo := fun (q : Option Addr) (d : Nat) (W : World) (k : RowAt W q (intCells (Cv.lifts M wd))) => (total_sum q d (Cv.lifts M wd) W k (Nat.le_trans (Cv.lifts_len M wd) (by decide)) (lifts_small M wd))
    rw [Cv.lifts_sum] at cTo
    have tA : (Cv.actW M wd).length ≤ 9223372036854775807 := Nat.le_trans (Cv.actW_len5 M wd) (by decide); have tL : (Cv.lifts M wd).length ≤ 9223372036854775807 := Nat.le_trans (Cv.lifts_len M wd) (by decide)
    generalize Cv.actW M wd = AC at *
    generalize Cv.lifts M wd = LI at *
    have HciA := Lib.hid ciA; have HcsA := Lib.hid csA; have HciL := Lib.hid ciL; have HcsL := Lib.hid csL; have HcTo := Lib.hid cTo; have HtA := Lib.hid tA; have HtL := Lib.hid tL
    clear ciA csA ciL csL cTo tA tL
    go_wp2_with fail
    refine (HciA.out aM cM w5 (HG28.out aM M (by simp)) aW cW (HR29.out.get aW wd (by simp))).mono ?_
    rintro e w6 ⟨a32, c33, rfl, hc36, hm37, hg34, hb35⟩
    have hB38 : Below w.heap.size w w6 := hB27x.out.trans (hb35.mono hB27x.out.size)
    have hB38x := Lib.hid hB38; clear hB38
    have HG39 := Lib.hid (HG28.out.below hb35)
    clear HG28
    have HR40 := Lib.hid (Rows.cons (HR29.out.below hb35) hg34.row)
    clear HR29
    have K41 := Lib.hid (K30.out.below hb35); clear K30
    have K42 := Lib.hid (K31.out.below hb35); clear K31
    clear hg34 hb35 hc36 hm37
    go_wp2_with fail
    refine (HciL.out aM cM w6 (HG39.out aM M (by simp)) aW cW (HR40.out.get aW wd (by simp))).mono ?_
    rintro e w7 ⟨a43, c44, rfl, hc47, hm48, hg45, hb46⟩
    have hB49 : Below w.heap.size w w7 := hB38x.out.trans (hb46.mono hB38x.out.size)
    have hB49x := Lib.hid hB49; clear hB49
    have HG50 := Lib.hid (HG39.out.below hb46)
    clear HG39
    have HR51 := Lib.hid (Rows.cons (HR40.out.below hb46) hg45.row)
    clear HR40
    have K52 := Lib.hid (K41.out.below hb46); clear K41
    have K53 := Lib.hid (K42.out.below hb46); clear K42
    clear hg45 hb46 hc47 hm48
    go_wp2_with fail
    refine (drawCountActions a c l w7 (Ha.out.below hB49x.out) Hb.out hsz).mono ?_
    rintro e w8 ⟨A, m, rfl, hA0, hA1, hm0, hm1, hb54⟩
    have hB55 : Below w.heap.size w w8 := hB49x.out.trans (hb54.mono hB49x.out.size)
    have hB55x := Lib.hid hB55; clear hB55
    have HG56 := Lib.hid (HG50.out.below hb54)
    clear HG50
    have HR57 := Lib.hid (HR51.out.below hb54)
    clear HR51
    have K58 := Lib.hid (K52.out.below hb54); clear K52
    have K59 := Lib.hid (K53.out.below hb54); clear K53
    clear hb54
    have fT := tab_law A m
    have ciN := fun (W : World) => impl_CountActions A m W
    have csN := fun (W : World) => spec_CountActions A m W
    have ciV := fun (W : World) => impl_CountCovers A m W
    have csV := fun (W : World) => spec_CountCovers A m W
    generalize Cv.acts A m = CA at *
    generalize Cv.coverings A m = CC at *
    have HfT := Lib.hid fT; have HciN := Lib.hid ciN; have HcsN := Lib.hid csN; have HciV := Lib.hid ciV; have HcsV := Lib.hid csV
    clear fT ciN csN ciV csV
    as_aux_lemma =>
    go_wp2_with fail
    refine (HciN.out w8).mono ?_
    rintro e w9 ⟨rfl, hb60⟩
    have hB61 : Below w.heap.size w w9 := hB55x.out.trans (hb60.mono hB55x.out.size)
    have hB61x := Lib.hid hB61; clear hB61
    have HG62 := Lib.hid (HG56.out.below hb60)
    clear HG56
    have HR63 := Lib.hid (HR57.out.below hb60)
    clear HR57
    have K64 := Lib.hid (K58.out.below hb60); clear K58
    have K65 := Lib.hid (K59.out.below hb60); clear K59
    clear hb60
    go_wp2_with fail
    refine (HciP.out aL cL w9 (HG62.out aL L (by simp))).mono ?_
    rintro e w10 ⟨a66, c67, rfl, hc70, hm71, hg68, hb69⟩
    have hB72 : Below w.heap.size w w10 := hB61x.out.trans (hb69.mono hB61x.out.size)
    have hB72x := Lib.hid hB72; clear hB72
    have HG73 := Lib.hid (Grids.cons (HG62.out.below hb69) hg68.grid)
    clear HG62
    have HR74 := Lib.hid (HR63.out.below hb69)
    clear HR63
    have K75 := Lib.hid (K64.out.below hb69); clear K64
    have K76 := Lib.hid (K65.out.below hb69); clear K65
    clear hg68 hb69 hc70 hm71
    go_upto_region 12 with fail
    go_cut [124] from 21 (fun sv wx => sv = .bool false ∧ Below w10.heap.size w10 wx)
    case first => as_aux_lemma =>
      have hA77 := Lib.hid (Below.refl w10.heap.size w10)
      go_wp2_with fail
      refine (sameSurfaces_eq a5 a15 c6 c16 X w10 K75.out K76.out HtX.out).mono ?_
      rintro e w11 ⟨rfl, hb78⟩
      have hB79 : Below w.heap.size w w11 := hB72x.out.trans (hb78.mono hB72x.out.size)
      have hB79x := Lib.hid hB79; clear hB79
      have HG80 := Lib.hid (HG73.out.below hb78)
      clear HG73
      have HR81 := Lib.hid (HR74.out.below hb78)
      clear HR74
      have K82 := Lib.hid (K75.out.below hb78); clear K75
      have K83 := Lib.hid (K76.out.below hb78); clear K76
      have hA84 := Lib.hid (hA77.out.trans (hb78.mono hA77.out.size)); clear hA77
      clear hb78
      go_wp2_with fail
      refine (HcsA.out aM cM w11 (HG80.out aM M (by simp)) aW cW (HR81.out.get aW wd (by simp))).mono ?_
      rintro e w12 ⟨a85, c86, rfl, hc89, hm90, hg87, hb88⟩
      have hB91 : Below w.heap.size w w12 := hB79x.out.trans (hb88.mono hB79x.out.size)
      have hB91x := Lib.hid hB91; clear hB91
      have HG92 := Lib.hid (HG80.out.below hb88)
      clear HG80
      have HR93 := Lib.hid (Rows.cons (HR81.out.below hb88) hg87.row)
      clear HR81
      have K94 := Lib.hid (K82.out.below hb88); clear K82
      have K95 := Lib.hid (K83.out.below hb88); clear K83
      have hA96 := Lib.hid (hA84.out.trans (hb88.mono hA84.out.size)); clear hA84
      clear hg87 hb88 hc89 hm90
      as_aux_lemma =>
      go_wp2_with fail
      refine (sameInts_eq a32 a85 c33 c86 AC w12 (HR93.out.get a32 AC (by simp)) (HR93.out.get a85 AC (by simp)) HtA.out).mono ?_
      rintro e w13 ⟨rfl, hb97⟩
      have hB98 : Below w.heap.size w w13 := hB91x.out.trans (hb97.mono hB91x.out.size)
      have hB98x := Lib.hid hB98; clear hB98
      have HG99 := Lib.hid (HG92.out.below hb97)
      clear HG92
      have HR100 := Lib.hid (HR93.out.below hb97)
      clear HR93
      have K101 := Lib.hid (K94.out.below hb97); clear K94
      have K102 := Lib.hid (K95.out.below hb97); clear K95
      have hA103 := Lib.hid (hA96.out.trans (hb97.mono hA96.out.size)); clear hA96
      clear hb97
      go_wp2_with fail
      refine (HcsL.out aM cM w13 (HG99.out aM M (by simp)) aW cW (HR100.out.get aW wd (by simp))).mono ?_
      rintro e w14 ⟨a104, c105, rfl, hc108, hm109, hg106, hb107⟩
      have hB110 : Below w.heap.size w w14 := hB98x.out.trans (hb107.mono hB98x.out.size)
      have hB110x := Lib.hid hB110; clear hB110
      have HG111 := Lib.hid (HG99.out.below hb107)
      clear HG99
      have HR112 := Lib.hid (Rows.cons (HR100.out.below hb107) hg106.row)
      clear HR100
      have K113 := Lib.hid (K101.out.below hb107); clear K101
      have K114 := Lib.hid (K102.out.below hb107); clear K102
      have hA115 := Lib.hid (hA103.out.trans (hb107.mono hA103.out.size)); clear hA103
      clear hg106 hb107 hc108 hm109
      go_wp2_with fail
      refine (sameInts_eq a43 a104 c44 c105 LI w14 (HR112.out.get a43 LI (by simp)) (HR112.out.get a104 LI (by simp)) HtL.out).mono ?_
      rintro e w15 ⟨rfl, hb116⟩
      have hB117 : Below w.heap.size w w15 := hB110x.out.trans (hb116.mono hB110x.out.size)
      have hB117x := Lib.hid hB117; clear hB117
      have HG118 := Lib.hid (HG111.out.below hb116)
      clear HG111
      have HR119 := Lib.hid (HR112.out.below hb116)
      clear HR112
      have K120 := Lib.hid (K113.out.below hb116); clear K113
      have K121 := Lib.hid (K114.out.below hb116); clear K114
      have hA122 := Lib.hid (hA115.out.trans (hb116.mono hA115.out.size)); clear hA115
      clear hb116
      go_wp2_with fail
      refine (HcsN.out w15).mono ?_
      rintro e w16 ⟨rfl, hb123⟩
      have hB124 : Below w.heap.size w w16 := hB117x.out.trans (hb123.mono hB117x.out.size)
      have hB124x := Lib.hid hB124; clear hB124
      have HG125 := Lib.hid (HG118.out.below hb123)
      clear HG118
      have HR126 := Lib.hid (HR119.out.below hb123)
      clear HR119
      have K127 := Lib.hid (K120.out.below hb123); clear K120
      have K128 := Lib.hid (K121.out.below hb123); clear K121
      have hA129 := Lib.hid (hA122.out.trans (hb123.mono hA122.out.size)); clear hA122
      clear hb123
      as_aux_lemma =>
      go_wp2_with fail
      refine (HciV.out w16).mono ?_
      rintro e w17 ⟨rfl, hb130⟩
      have hB131 : Below w.heap.size w w17 := hB124x.out.trans (hb130.mono hB124x.out.size)
      have hB131x := Lib.hid hB131; clear hB131
      have HG132 := Lib.hid (HG125.out.below hb130)
      clear HG125
      have HR133 := Lib.hid (HR126.out.below hb130)
      clear HR126
      have K134 := Lib.hid (K127.out.below hb130); clear K127
      have K135 := Lib.hid (K128.out.below hb130); clear K128
      have hA136 := Lib.hid (hA129.out.trans (hb130.mono hA129.out.size)); clear hA129
      clear hb130
      go_wp2_with fail
      refine (HcsV.out w17).mono ?_
      rintro e w18 ⟨rfl, hb137⟩
      have hB138 : Below w.heap.size w w18 := hB131x.out.trans (hb137.mono hB131x.out.size)
      have hB138x := Lib.hid hB138; clear hB138
      have HG139 := Lib.hid (HG132.out.below hb137)
      clear HG132
      have HR140 := Lib.hid (HR133.out.below hb137)
      clear HR133
      have K141 := Lib.hid (K134.out.below hb137); clear K134
      have K142 := Lib.hid (K135.out.below hb137); clear K135
      have hA143 := Lib.hid (hA136.out.trans (hb137.mono hA136.out.size)); clear hA136
      clear hb137
      go_wp2_with fail
      refine (HcsP.out aL cL w18 (HG139.out aL L (by simp))).mono ?_
      rintro e w19 ⟨a144, c145, rfl, hc148, hm149, hg146, hb147⟩
      have hB150 : Below w.heap.size w w19 := hB138x.out.trans (hb147.mono hB138x.out.size)
      have hB150x := Lib.hid hB150; clear hB150
      have HG151 := Lib.hid (Grids.cons (HG139.out.below hb147) hg146.grid)
      clear HG139
      have HR152 := Lib.hid (HR140.out.below hb147)
      clear HR140
      have K153 := Lib.hid (K141.out.below hb147); clear K141
      have K154 := Lib.hid (K142.out.below hb147); clear K142
      have hA155 := Lib.hid (hA143.out.trans (hb147.mono hA143.out.size)); clear hA143
      clear hg146 hb147 hc148 hm149
      go_wp2_with fail
      refine (sameLists_eq a66 a144 c67 c145 PT w19 (HG151.out a66 PT (by simp)) (HG151.out a144 PT (by simp)) HtP.out).mono ?_
      rintro e w20 ⟨rfl, hb156⟩
      have hB157 : Below w.heap.size w w20 := hB150x.out.trans (hb156.mono hB150x.out.size)
      have hB157x := Lib.hid hB157; clear hB157
      have HG158 := Lib.hid (HG151.out.below hb156)
      clear HG151
      have HR159 := Lib.hid (HR152.out.below hb156)
      clear HR152
      have K160 := Lib.hid (K153.out.below hb156); clear K153
      have K161 := Lib.hid (K154.out.below hb156); clear K154
      have hA162 := Lib.hid (hA155.out.trans (hb156.mono hA155.out.size)); clear hA155
      clear hb156
      as_aux_lemma =>
      go_wp2_with fail
      refine (HciI.out aL cL w20 (HG158.out aL L (by simp))).mono ?_
      rintro e w21 ⟨rfl, hb163⟩
      have hB164 : Below w.heap.size w w21 := hB157x.out.trans (hb163.mono hB157x.out.size)
      have hB164x := Lib.hid hB164; clear hB164
      have HG165 := Lib.hid (HG158.out.below hb163)
      clear HG158
      have HR166 := Lib.hid (HR159.out.below hb163)
      clear HR159
      have K167 := Lib.hid (K160.out.below hb163); clear K160
      have K168 := Lib.hid (K161.out.below hb163); clear K161
      have hA169 := Lib.hid (hA162.out.trans (hb163.mono hA162.out.size)); clear hA162
      clear hb163
      go_wp2_with fail
      refine (HcsI.out aL cL w21 (HG165.out aL L (by simp))).mono ?_
      rintro e w22 ⟨rfl, hb170⟩
      have hB171 : Below w.heap.size w w22 := hB164x.out.trans (hb170.mono hB164x.out.size)
      have hB171x := Lib.hid hB171; clear hB171
      have HG172 := Lib.hid (HG165.out.below hb170)
      clear HG165
      have HR173 := Lib.hid (HR166.out.below hb170)
      clear HR166
      have K174 := Lib.hid (K167.out.below hb170); clear K167
      have K175 := Lib.hid (K168.out.below hb170); clear K168
      have hA176 := Lib.hid (hA169.out.trans (hb170.mono hA169.out.size)); clear hA169
      clear hb170
      go_wp2_with fail
      refine (HciS.out aL cL w22 (HG172.out aL L (by simp))).mono ?_
      rintro e w23 ⟨rfl, hb177⟩
      have hB178 : Below w.heap.size w w23 := hB171x.out.trans (hb177.mono hB171x.out.size)
      have hB178x := Lib.hid hB178; clear hB178
      have HG179 := Lib.hid (HG172.out.below hb177)
      clear HG172
      have HR180 := Lib.hid (HR173.out.below hb177)
      clear HR173
      have K181 := Lib.hid (K174.out.below hb177); clear K174
      have K182 := Lib.hid (K175.out.below hb177); clear K175
      have hA183 := Lib.hid (hA176.out.trans (hb177.mono hA176.out.size)); clear hA176
      clear hb177
      go_wp2_with fail
      refine (HcsS.out aL cL w23 (HG179.out aL L (by simp))).mono ?_
      rintro e w24 ⟨rfl, hb184⟩
      have hB185 : Below w.heap.size w w24 := hB178x.out.trans (hb184.mono hB178x.out.size)
      have hB185x := Lib.hid hB185; clear hB185
      have HG186 := Lib.hid (HG179.out.below hb184)
      clear HG179
      have HR187 := Lib.hid (HR180.out.below hb184)
      clear HR180
      have K188 := Lib.hid (K181.out.below hb184); clear K181
      have K189 := Lib.hid (K182.out.below hb184); clear K182
      have hA190 := Lib.hid (hA183.out.trans (hb184.mono hA183.out.size)); clear hA183
      clear hb184
      go_wp2_with fail
      go_meet
      exact ⟨rfl, hA190.out⟩
    case rest => as_aux_lemma =>
    obtain ⟨rfl, hb191⟩ := hcut
    obtain ⟨w25, hu0⟩ : ∃ u, u = wc := ⟨_, rfl⟩
    subst hu0
    have hB192 : Below w.heap.size w w25 := hB72x.out.trans (hb191.mono hB72x.out.size)
    have hB192x := Lib.hid hB192; clear hB192
    have HG193 := Lib.hid (HG73.out.below hb191)
    clear HG73
    have HR194 := Lib.hid (HR74.out.below hb191)
    clear HR74
    have K195 := Lib.hid (K75.out.below hb191); clear K75
    have K196 := Lib.hid (K76.out.below hb191); clear K76
    clear hb191
    go_upto_region 14 with fail
    go_cut [136] from 21 (fun sv wx => sv = .bool false ∧ Below w25.heap.size w25 wx)
    case first => as_aux_lemma =>
      have hA197 := Lib.hid (Below.refl w25.heap.size w25)
      as_aux_lemma =>
      go_wp2_with fail
      refine (HcTo.out a43 c44 w25 (HR194.out.get a43 LI (by simp))).mono ?_
      rintro e w26 ⟨rfl, hb198⟩
      have hB199 : Below w.heap.size w w26 := hB192x.out.trans (hb198.mono hB192x.out.size)
      have hB199x := Lib.hid hB199; clear hB199
      have HG200 := Lib.hid (HG193.out.below hb198)
      clear HG193
      have HR201 := Lib.hid (HR194.out.below hb198)
      clear HR194
      have K202 := Lib.hid (K195.out.below hb198); clear K195
      have K203 := Lib.hid (K196.out.below hb198); clear K196
      have hA204 := Lib.hid (hA197.out.trans (hb198.mono hA197.out.size)); clear hA197
      clear hb198
      go_wp2_with fail
      refine (HciI.out aL cL w26 (HG200.out aL L (by simp))).mono ?_
      rintro e w27 ⟨rfl, hb205⟩
      have hB206 : Below w.heap.size w w27 := hB199x.out.trans (hb205.mono hB199x.out.size)
      have hB206x := Lib.hid hB206; clear hB206
      have HG207 := Lib.hid (HG200.out.below hb205)
      clear HG200
      have HR208 := Lib.hid (HR201.out.below hb205)
      clear HR201
      have K209 := Lib.hid (K202.out.below hb205); clear K202
      have K210 := Lib.hid (K203.out.below hb205); clear K203
      have hA211 := Lib.hid (hA204.out.trans (hb205.mono hA204.out.size)); clear hA204
      clear hb205
      go_wp2_with fail
      go_meet
      exact ⟨rfl, hA211.out⟩
    case rest => as_aux_lemma =>
    obtain ⟨rfl, hb212⟩ := hcut
    obtain ⟨w28, hu0⟩ : ∃ u, u = wc := ⟨_, rfl⟩
    subst hu0
    have hB213 : Below w.heap.size w w28 := hB192x.out.trans (hb212.mono hB192x.out.size)
    have hB213x := Lib.hid hB213; clear hB213
    have HG214 := Lib.hid (HG193.out.below hb212)
    clear HG193
    have HR215 := Lib.hid (HR194.out.below hb212)
    clear HR194
    have K216 := Lib.hid (K195.out.below hb212); clear K195
    have K217 := Lib.hid (K196.out.below hb212); clear K196
    clear hb212
    go_upto_region 17 with fail
    go_cut [166] from 21 (fun sv wx => sv = .bool false ∧ Below w28.heap.size w28 wx)
    case first => as_aux_lemma =>
      rcases (show m = 0 ∨ m = 1 ∨ m = 2 ∨ m = 3 by omega) with rfl | rfl | rfl | rfl
      · as_aux_lemma =>
        go_wp2_with fail
        go_meet
        exact ⟨rfl, below_allocs4 _ _ _ _ _⟩
      · as_aux_lemma =>
        rcases (show A = -1 ∨ A = 0 ∨ A = 1 ∨ A = 2 ∨ A = 3 by omega) with rfl | rfl | rfl | rfl | rfl
        · as_aux_lemma =>
          go_wp2_with fail
          go_meet
          exact ⟨rfl, below_allocs4 _ _ _ _ _⟩
        · as_aux_lemma =>
          have ct := HfT.out 1 (by decide)
          subst ct
          go_wp2_with fail
          go_meet
          exact ⟨rfl, below_allocs4 _ _ _ _ _⟩
        · as_aux_lemma =>
          have ct := HfT.out 1 (by decide)
          subst ct
          go_wp2_with fail
          go_meet
          exact ⟨rfl, below_allocs4 _ _ _ _ _⟩
        · as_aux_lemma =>
          have ct := HfT.out 1 (by decide)
          subst ct
          go_wp2_with fail
          go_meet
          exact ⟨rfl, below_allocs4 _ _ _ _ _⟩
        · as_aux_lemma =>
          go_wp2_with fail
          go_meet
          exact ⟨rfl, below_allocs4 _ _ _ _ _⟩
      · as_aux_lemma =>
        rcases (show A = -1 ∨ A = 0 ∨ A = 1 ∨ A = 2 ∨ A = 3 by omega) with rfl | rfl | rfl | rfl | rfl
        · as_aux_lemma =>
          go_wp2_with fail
          go_meet
          exact ⟨rfl, below_allocs4 _ _ _ _ _⟩
        · as_aux_lemma =>
          have ct := HfT.out 4 (by decide)
          subst ct
          go_wp2_with fail
          go_meet
          exact ⟨rfl, below_allocs4 _ _ _ _ _⟩
        · as_aux_lemma =>
          have ct := HfT.out 4 (by decide)
          subst ct
          go_wp2_with fail
          go_meet
          exact ⟨rfl, below_allocs4 _ _ _ _ _⟩
        · as_aux_lemma =>
          have ct := HfT.out 16 (by decide)
          subst ct
          go_wp2_with fail
          go_meet
          exact ⟨rfl, below_allocs4 _ _ _ _ _⟩
        · as_aux_lemma =>
          go_wp2_with fail
          go_meet
          exact ⟨rfl, below_allocs4 _ _ _ _ _⟩
      · as_aux_lemma =>
        rcases (show A = -1 ∨ A = 0 ∨ A = 1 ∨ A = 2 ∨ A = 3 by omega) with rfl | rfl | rfl | rfl | rfl
        · as_aux_lemma =>
          go_wp2_with fail
          go_meet
          exact ⟨rfl, below_allocs4 _ _ _ _ _⟩
        · as_aux_lemma =>
          have ct := HfT.out 36 (by decide)
          subst ct
          go_wp2_with fail
          go_meet
          exact ⟨rfl, below_allocs4 _ _ _ _ _⟩
        · as_aux_lemma =>
          have ct := HfT.out 18 (by decide)
          subst ct
          go_wp2_with fail
          go_meet
          exact ⟨rfl, below_allocs4 _ _ _ _ _⟩
        · as_aux_lemma =>
          have ct := HfT.out 486 (by decide)
          subst ct
          go_wp2_with fail
          go_meet
          exact ⟨rfl, below_allocs4 _ _ _ _ _⟩
        · as_aux_lemma =>
          go_wp2_with fail
          go_meet
          exact ⟨rfl, below_allocs4 _ _ _ _ _⟩
    case rest => as_aux_lemma =>
    obtain ⟨rfl, hb218⟩ := hcut
    obtain ⟨w29, hu0⟩ : ∃ u, u = wc := ⟨_, rfl⟩
    subst hu0
    have hB219 : Below w.heap.size w w29 := hB213x.out.trans (hb218.mono hB213x.out.size)
    have hB219x := Lib.hid hB219; clear hB219
    have HG220 := Lib.hid (HG214.out.below hb218)
    clear HG214
    have HR221 := Lib.hid (HR215.out.below hb218)
    clear HR215
    have K222 := Lib.hid (K216.out.below hb218); clear K216
    have K223 := Lib.hid (K217.out.below hb218); clear K217
    clear hb218
    cases OK with
    | false => as_aux_lemma =>
      go_wp2
      go_ret
      exact ⟨rfl, hB219x.out⟩
    | true => as_aux_lemma =>
      obtain ⟨⟨g0, g2⟩, c2, c3, c4, c5, c6, c7, c8, c9⟩ := HfC.out rfl
      have Hc8 := Lib.hid c8; have Hc9 := Lib.hid c9; have Hc2 := Lib.hid c2; have Hc7 := Lib.hid c7; have Hc6 := Lib.hid c6; clear c8 c9 c2 c7 c6
      rcases (show G = 0 ∨ G = 1 ∨ G = 2 by omega) with rfl | rfl | rfl
      · as_aux_lemma =>
        have Hbase : Cv.base 0 = -1 := by decide
        rw [Hbase] at Hc7 Hc8; clear Hbase
        go_wp2_with fail
        go_loopw [18, 19, 20] (fun sv iv _ wr => ∃ k : Nat, k ≤ X.length ∧ iv = .int .i64 k ∧ sv = .int .i64 (PS k) ∧ Hid (Below w29.heap.size w29 wr)) (fun _ iv _ _ => X.length - (intOf iv).toNat)
        case atStart => exact ⟨0, Nat.zero_le _, rfl, by rw [Hc6.out], Lib.hid (Below.refl _ _)⟩
        case round =>
          obtain ⟨k, hk, rfl, rfl, hb⟩ := hrel
          by_cases hlt : k < X.length
          · as_aux_lemma =>
            have dlt : decide (k < X.length) = true := decide_eq_true hlt
            have i0 : (0 : Int) ≤ (k : Int) := by omega
            have i1 : (k : Int) < (X.length : Int) := by omega
            have hXl : X.length ≤ 1000000 := HtX.out
            have i2 : (k : Int) < (PT.length : Int) := by have := Hc2.out; omega
            obtain ⟨x, y, z, p, hx, hp, hI, hp5, hE, hS1, hS2, hS3⟩ := Hc8.out k hlt
            obtain ⟨bx, ox, hox, hbx, x0, x1, x2⟩ := sfCells_some (K222.out.below hb.out) hx
            subst hox
            obtain ⟨bp, op, ap, cp, hop, hbp, y0, _⟩ := ((HG220.out a66 PT (by simp)).below hb.out).get hp
            subst hop
            dsimp only at x0 x1 x2
            have HEu := Lib.hid (fun W => spec_EulerNumber x y z W hI)
            generalize Surf.euler x y z = E at *
            generalize p.length = pl at *
            have e0 : PS k + E = PS (k + 1) := hS1.symm
            obtain ⟨S2, hS4⟩ : ∃ S2, PS (k + 1) = S2 := ⟨_, rfl⟩
            rw [hS4] at e0
            have HS4 := Lib.hid hS4; clear hS4 hS1
            generalize PS k = S1 at *
            have e1 : IntKind.i64.wrap (S1 + E) = S2 := by rw [e0]; exact wrap_small (by omega) (by omega)
            have e2 : IntKind.i64.wrap (-(pl : Int)) = E := by rw [show -(pl : Int) = E by omega]; exact wrap_small (by omega) (by omega)
            clear hx hp hI hp5 hE hS2 hS3 e0
            go_wp2_with fail
            refine (HEu.out _).mono ?_
            rintro e w30 ⟨rfl, hb224⟩
            have Hk := Lib.hid (hb.out.trans (hb224.mono hb.out.size))
            have hbx2 := Nat.lt_of_lt_of_le hbx hb224.size; have hbp2 := Nat.lt_of_lt_of_le hbp hb224.size
            have Hmk := Lib.hid (fun (v2 : World) (h : Below w30.heap.size w30 v2) => show v2.cell? ⟨bx, ox + k * 3, none⟩ = some (.int .i64 x) ∧ v2.cell? ⟨bx, ox + k * 3 + 1, none⟩ = some (.int .i64 y) ∧ v2.cell? ⟨bx, ox + k * 3 + 2, none⟩ = some (.int .i64 z) ∧ v2.cell? ⟨bp, op + k, none⟩ = some (.slice ap pl cp) ∧ Below w30.heap.size w30 v2 from ⟨by rw [h.cell hbx2, hb224.cell hbx]; exact x0, by rw [h.cell hbx2, hb224.cell hbx]; exact x1, by rw [h.cell hbx2, hb224.cell hbx]; exact x2, by rw [h.cell hbp2, hb224.cell hbp]; exact y0, h⟩)
            have Hpr := Lib.hid (fun (v2 : World) (h : v2.cell? ⟨bx, ox + k * 3, none⟩ = some (.int .i64 x) ∧ v2.cell? ⟨bx, ox + k * 3 + 1, none⟩ = some (.int .i64 y) ∧ v2.cell? ⟨bx, ox + k * 3 + 2, none⟩ = some (.int .i64 z) ∧ v2.cell? ⟨bp, op + k, none⟩ = some (.slice ap pl cp) ∧ Below w30.heap.size w30 v2) => h.2.2.2.2)
            clear x0 x1 x2 y0 hbx hbp hbx2 hbp2 hb224
            go_upto_region 27 with fail
            refine held_begin (S := fun w' => w'.cell? ⟨bx, ox + k * 3, none⟩ = some (.int .i64 x) ∧ w'.cell? ⟨bx, ox + k * 3 + 1, none⟩ = some (.int .i64 y) ∧ w'.cell? ⟨bx, ox + k * 3 + 2, none⟩ = some (.int .i64 z) ∧ w'.cell? ⟨bp, op + k, none⟩ = some (.slice ap pl cp) ∧ Below w30.heap.size w30 w') 13 (by kernel_rfl) rfl ?_ (fun hHeld => ?_)
            · exact Hmk.out _ (Below.drew ((Below.refl _ _).alloc (Nat.le_refl _) _))
            try simp only [Array.replicate]
            first | (refine held_take (i := 0) (v := ?_) rfl (by as_aux_lemma => kernel_rfl) (fun _ _ _ h => h) (by rfl) ?_ hHeld ?_; rotate_left; · (intro w' hSw; go_split_ands; go_simp; try with_reducible rfl)) | (refine held_skip (i := 0) rfl (by as_aux_lemma => kernel_rfl) (fun _ _ _ h => h) (by rfl) hHeld ?_)
            try simp only [Act.put, List.setIfInBounds_toArray, List.set_cons_zero, List.set_cons_succ]
            first | (refine held_take (i := 1) (v := ?_) rfl (by as_aux_lemma => kernel_rfl) (fun _ _ _ h => h) (by rfl) ?_ hHeld ?_; rotate_left; · (intro w' hSw; go_split_ands; go_simp; try with_reducible rfl)) | (refine held_skip (i := 1) rfl (by as_aux_lemma => kernel_rfl) (fun _ _ _ h => h) (by rfl) hHeld ?_)
            try simp only [Act.put, List.setIfInBounds_toArray, List.set_cons_zero, List.set_cons_succ]
            first | (refine held_take (i := 2) (v := ?_) rfl (by as_aux_lemma => kernel_rfl) (fun _ _ _ h => h) (by rfl) ?_ hHeld ?_; rotate_left; · (intro w' hSw; go_split_ands; go_simp; try with_reducible rfl)) | (refine held_skip (i := 2) rfl (by as_aux_lemma => kernel_rfl) (fun _ _ _ h => h) (by rfl) hHeld ?_)
            try simp only [Act.put, List.setIfInBounds_toArray, List.set_cons_zero, List.set_cons_succ]
            first | (refine held_take (i := 3) (v := ?_) rfl (by as_aux_lemma => kernel_rfl) (fun _ _ _ h => h) (by rfl) ?_ hHeld ?_; rotate_left; · (intro w' hSw; go_split_ands; go_simp; try with_reducible rfl)) | (refine held_skip (i := 3) rfl (by as_aux_lemma => kernel_rfl) (fun _ _ _ h => h) (by rfl) hHeld ?_)
            try simp only [Act.put, List.setIfInBounds_toArray, List.set_cons_zero, List.set_cons_succ]
            first | (refine held_take (i := 5) (v := ?_) rfl (by as_aux_lemma => kernel_rfl) (fun _ _ _ h => h) (by rfl) ?_ hHeld ?_; rotate_left; · (intro w' hSw; go_split_ands; go_simp; try with_reducible rfl)) | (refine held_skip (i := 5) rfl (by as_aux_lemma => kernel_rfl) (fun _ _ _ h => h) (by rfl) hHeld ?_)
            try simp only [Act.put, List.setIfInBounds_toArray, List.set_cons_zero, List.set_cons_succ]
            first | (refine held_take (i := 6) (v := ?_) rfl (by as_aux_lemma => kernel_rfl) (fun _ _ _ h => h) (by rfl) ?_ hHeld ?_; rotate_left; · (intro w' hSw; go_split_ands; go_simp; try with_reducible rfl)) | (refine held_skip (i := 6) rfl (by as_aux_lemma => kernel_rfl) (fun _ _ _ h => h) (by rfl) hHeld ?_)
            try simp only [Act.put, List.setIfInBounds_toArray, List.set_cons_zero, List.set_cons_succ]
            first | (refine held_take (i := 7) (v := ?_) rfl (by as_aux_lemma => kernel_rfl) (fun _ _ _ h => h) (by rfl) ?_ hHeld ?_; rotate_left; · (intro w' hSw; go_split_ands; go_simp; try with_reducible rfl)) | (refine held_skip (i := 7) rfl (by as_aux_lemma => kernel_rfl) (fun _ _ _ h => h) (by rfl) hHeld ?_)
            try simp only [Act.put, List.setIfInBounds_toArray, List.set_cons_zero, List.set_cons_succ]
            first | (refine held_take (i := 8) (v := ?_) rfl (by as_aux_lemma => kernel_rfl) (fun _ _ _ h => h) (by rfl) ?_ hHeld ?_; rotate_left; · (intro w' hSw; go_split_ands; go_simp; try with_reducible rfl)) | (refine held_skip (i := 8) rfl (by as_aux_lemma => kernel_rfl) (fun _ _ _ h => h) (by rfl) hHeld ?_)
            try simp only [Act.put, List.setIfInBounds_toArray, List.set_cons_zero, List.set_cons_succ]
            first | (refine held_take (i := 9) (v := ?_) rfl (by as_aux_lemma => kernel_rfl) (fun _ _ _ h => h) (by rfl) ?_ hHeld ?_; rotate_left; · (intro w' hSw; go_split_ands; go_simp; try with_reducible rfl)) | (refine held_skip (i := 9) rfl (by as_aux_lemma => kernel_rfl) (fun _ _ _ h => h) (by rfl) hHeld ?_)
            try simp only [Act.put, List.setIfInBounds_toArray, List.set_cons_zero, List.set_cons_succ]
            first | (refine held_take (i := 10) (v := ?_) rfl (by as_aux_lemma => kernel_rfl) (fun _ _ _ h => h) (by rfl) ?_ hHeld ?_; rotate_left; · (intro w' hSw; go_split_ands; go_simp; try with_reducible rfl)) | (refine held_skip (i := 10) rfl (by as_aux_lemma => kernel_rfl) (fun _ _ _ h => h) (by rfl) hHeld ?_)
            try simp only [Act.put, List.setIfInBounds_toArray, List.set_cons_zero, List.set_cons_succ]
            first | (refine held_take (i := 11) (v := ?_) rfl (by as_aux_lemma => kernel_rfl) (fun _ _ _ h => h) (by rfl) ?_ hHeld ?_; rotate_left; · (intro w' hSw; go_split_ands; go_simp; try with_reducible rfl)) | (refine held_skip (i := 11) rfl (by as_aux_lemma => kernel_rfl) (fun _ _ _ h => h) (by rfl) hHeld ?_)
            try simp only [Act.put, List.setIfInBounds_toArray, List.set_cons_zero, List.set_cons_succ]
            as_aux_lemma =>
            refine held_one (i := 4) rfl (by as_aux_lemma => kernel_rfl) (fun K hK => ?_)
            go_simp
            go_at_call 28
            refine (HEu.out _).mono ?_
            rintro e v226 ⟨rfl, hb227⟩
            have hS225 := held_on Hmk.out hHeld (fun h => Hpr.out _ h) hb227
            clear hb227 hHeld
            go_simp
            refine hK.out _ _ hS225 (fun hHeld228 => ?_)
            clear hK K hS225
            try simp only [Act.put, List.setIfInBounds_toArray, List.set_cons_zero, List.set_cons_succ]
            first | (refine held_take (i := 12) (v := ?_) rfl (by as_aux_lemma => kernel_rfl) (fun _ _ _ h => h) (by rfl) ?_ hHeld228 ?_; rotate_left; · (intro w' hSw; go_split_ands; go_simp; try with_reducible rfl)) | (refine held_skip (i := 12) rfl (by as_aux_lemma => kernel_rfl) (fun _ _ _ h => h) (by rfl) hHeld228 ?_)
            try simp only [Act.put, List.setIfInBounds_toArray, List.set_cons_zero, List.set_cons_succ]
            refine held_done (by as_aux_lemma => kernel_rfl) ?_
            go_wp2
            go_roundw
            case rel => exact ⟨k + 1, by omega, by go_num, by rw [HS4.out], Lib.hid (Hk.out.trans ((Hpr.out _ hHeld228).mono Hk.out.size))⟩
            case measure => simp [intOf]; omega
          · as_aux_lemma =>
            obtain rfl : k = X.length := by omega
            have dlt : decide (X.length < X.length) = false := decide_eq_false (by omega)
            rw [Hc7.out]
            clear hlt hk
            have hB229 : Below w.heap.size w wr := hB219x.out.trans (hb.out.mono hB219x.out.size)
            have hB229x := Lib.hid hB229; clear hB229
            have HG230 := Lib.hid (HG220.out.below hb.out)
            clear HG220
            have HR231 := Lib.hid (HR221.out.below hb.out)
            clear HR221
            have K232 := Lib.hid (K222.out.below hb.out); clear K222
            have K233 := Lib.hid (K223.out.below hb.out); clear K223
            clear hb
            obtain ⟨r, hr, hrl⟩ := HfH.out c4
            obtain ⟨b0, o0, a0, cc0, hb00, hbw0, hcell0, _⟩ := (HG230.out aL L (by simp)).get hr
            rw [Nat.add_zero, hrl] at hcell0
            subst hb00
            clear hr hrl
            have il : 0 < L.length := by omega
            obtain ⟨T, hT⟩ : ∃ T : Int, -1 * (dg : Int) = T := ⟨_, rfl⟩
            have e3 : IntKind.i64.wrap (-(dg : Int)) = T := by rw [show -(dg : Int) = T by omega]; exact wrap_small (by omega) (by omega)
            rw [hT]
            clear hT c3
            have Hl4 := Lib.hid hL4; clear hL4 c4 hG0 hG1 g0 g2 hA0 hA1 hm0 hm1
            have Hmk := Lib.hid (fun (v2 : World) (h : Below wr.heap.size wr v2) => show v2.cell? ⟨b0, o0, none⟩ = some (.slice a0 dg cc0) ∧ Below wr.heap.size wr v2 from ⟨by rw [h.cell hbw0]; exact hcell0, h⟩)
            have Hpr := Lib.hid (fun (v2 : World) (h : v2.cell? ⟨b0, o0, none⟩ = some (.slice a0 dg cc0) ∧ Below wr.heap.size wr v2) => h.2)
            have Hgl := Lib.hid (HG230.out (some ⟨b0, o0, none⟩) L (by simp))
            clear hcell0
            go_upto_region 29 with fail
            go_cut [211] from 21 (fun sv wx => sv = .bool false ∧ Below wr.heap.size wr wx)
            case first => as_aux_lemma =>
              by_cases hP1 : PT.length = 1
              · as_aux_lemma =>
                obtain ⟨s1, s2⟩ := Hc9.out hP1
                have s0 : SY ≠ 0 := by omega
                have s4 : (SY == 0) = false := beq_eq_false_iff_ne.2 s0
                have s3 : IntKind.i64.wrap (Int.tmod (dg : Int) SY) = 0 := by rw [s2]; rfl
                have dP : (PT.length == 1) = true := by simp [hP1]
                have dP2 : ((PT.length : Int) == 1) = true := beq_iff_eq.2 (by omega)
                clear hP1
                clear s1
                refine held_begin (S := fun w' => w'.cell? ⟨b0, o0, none⟩ = some (.slice a0 dg cc0) ∧ Below wr.heap.size wr w') 13 (by kernel_rfl) rfl ?_ (fun hHeld => ?_)
                · exact Hmk.out _ (Below.drew (Below.refl _ _))
                try simp only [Array.replicate]
                first | (refine held_take (i := 0) (v := ?_) rfl (by as_aux_lemma => kernel_rfl) (fun _ _ _ h => h) (by rfl) ?_ hHeld ?_; rotate_left; · (intro w' hSw; go_split_ands; go_simp; try with_reducible rfl)) | (refine held_skip (i := 0) rfl (by as_aux_lemma => kernel_rfl) (fun _ _ _ h => h) (by rfl) hHeld ?_)
                try simp only [Act.put, List.setIfInBounds_toArray, List.set_cons_zero, List.set_cons_succ]
                first | (refine held_take (i := 1) (v := ?_) rfl (by as_aux_lemma => kernel_rfl) (fun _ _ _ h => h) (by rfl) ?_ hHeld ?_; rotate_left; · (intro w' hSw; go_split_ands; go_simp; try with_reducible rfl)) | (refine held_skip (i := 1) rfl (by as_aux_lemma => kernel_rfl) (fun _ _ _ h => h) (by rfl) hHeld ?_)
                try simp only [Act.put, List.setIfInBounds_toArray, List.set_cons_zero, List.set_cons_succ]
                first | (refine held_take (i := 2) (v := ?_) rfl (by as_aux_lemma => kernel_rfl) (fun _ _ _ h => h) (by rfl) ?_ hHeld ?_; rotate_left; · (intro w' hSw; go_split_ands; go_simp; try with_reducible rfl)) | (refine held_skip (i := 2) rfl (by as_aux_lemma => kernel_rfl) (fun _ _ _ h => h) (by rfl) hHeld ?_)
                try simp only [Act.put, List.setIfInBounds_toArray, List.set_cons_zero, List.set_cons_succ]
                first | (refine held_take (i := 3) (v := ?_) rfl (by as_aux_lemma => kernel_rfl) (fun _ _ _ h => h) (by rfl) ?_ hHeld ?_; rotate_left; · (intro w' hSw; go_split_ands; go_simp; try with_reducible rfl)) | (refine held_skip (i := 3) rfl (by as_aux_lemma => kernel_rfl) (fun _ _ _ h => h) (by rfl) hHeld ?_)
                try simp only [Act.put, List.setIfInBounds_toArray, List.set_cons_zero, List.set_cons_succ]
                first | (refine held_take (i := 4) (v := ?_) rfl (by as_aux_lemma => kernel_rfl) (fun _ _ _ h => h) (by rfl) ?_ hHeld ?_; rotate_left; · (intro w' hSw; go_split_ands; go_simp; try with_reducible rfl)) | (refine held_skip (i := 4) rfl (by as_aux_lemma => kernel_rfl) (fun _ _ _ h => h) (by rfl) hHeld ?_)
                try simp only [Act.put, List.setIfInBounds_toArray, List.set_cons_zero, List.set_cons_succ]
                first | (refine held_take (i := 5) (v := ?_) rfl (by as_aux_lemma => kernel_rfl) (fun _ _ _ h => h) (by rfl) ?_ hHeld ?_; rotate_left; · (intro w' hSw; go_split_ands; go_simp; try with_reducible rfl)) | (refine held_skip (i := 5) rfl (by as_aux_lemma => kernel_rfl) (fun _ _ _ h => h) (by rfl) hHeld ?_)
                try simp only [Act.put, List.setIfInBounds_toArray, List.set_cons_zero, List.set_cons_succ]
                first | (refine held_take (i := 6) (v := ?_) rfl (by as_aux_lemma => kernel_rfl) (fun _ _ _ h => h) (by rfl) ?_ hHeld ?_; rotate_left; · (intro w' hSw; go_split_ands; go_simp; try with_reducible rfl)) | (refine held_skip (i := 6) rfl (by as_aux_lemma => kernel_rfl) (fun _ _ _ h => h) (by rfl) hHeld ?_)
                try simp only [Act.put, List.setIfInBounds_toArray, List.set_cons_zero, List.set_cons_succ]
                first | (refine held_take (i := 7) (v := ?_) rfl (by as_aux_lemma => kernel_rfl) (fun _ _ _ h => h) (by rfl) ?_ hHeld ?_; rotate_left; · (intro w' hSw; go_split_ands; go_simp; try with_reducible rfl)) | (refine held_skip (i := 7) rfl (by as_aux_lemma => kernel_rfl) (fun _ _ _ h => h) (by rfl) hHeld ?_)
                try simp only [Act.put, List.setIfInBounds_toArray, List.set_cons_zero, List.set_cons_succ]
                first | (refine held_take (i := 8) (v := ?_) rfl (by as_aux_lemma => kernel_rfl) (fun _ _ _ h => h) (by rfl) ?_ hHeld ?_; rotate_left; · (intro w' hSw; go_split_ands; go_simp; try with_reducible rfl)) | (refine held_skip (i := 8) rfl (by as_aux_lemma => kernel_rfl) (fun _ _ _ h => h) (by rfl) hHeld ?_)
                try simp only [Act.put, List.setIfInBounds_toArray, List.set_cons_zero, List.set_cons_succ]
                refine held_one (i := 9) rfl (by as_aux_lemma => kernel_rfl) (fun K hK => ?_)
                go_simp
                go_at_call 25
                refine (HciS.out (some ⟨b0, o0, none⟩) cL _ (Hgl.out.below (Hpr.out _ hHeld))).mono ?_
                rintro e v235 ⟨rfl, hb236⟩
                have hS234 := held_on Hmk.out hHeld (fun h => Hpr.out _ h) hb236
                clear hb236 hHeld
                go_simp
                refine hK.out _ _ hS234 (fun hHeld237 => ?_)
                clear hK K hS234
                try simp only [Act.put, List.setIfInBounds_toArray, List.set_cons_zero, List.set_cons_succ]
                first | (refine held_take (i := 10) (v := ?_) rfl (by as_aux_lemma => kernel_rfl) (fun _ _ _ h => h) (by rfl) ?_ hHeld237 ?_; rotate_left; · (intro w' hSw; go_split_ands; go_simp; try with_reducible rfl)) | (refine held_skip (i := 10) rfl (by as_aux_lemma => kernel_rfl) (fun _ _ _ h => h) (by rfl) hHeld237 ?_)
                try simp only [Act.put, List.setIfInBounds_toArray, List.set_cons_zero, List.set_cons_succ]
                as_aux_lemma =>
                first | (refine held_take (i := 11) (v := ?_) rfl (by as_aux_lemma => kernel_rfl) (fun _ _ _ h => h) (by rfl) ?_ hHeld237 ?_; rotate_left; · (intro w' hSw; go_split_ands; go_simp; try with_reducible rfl)) | (refine held_skip (i := 11) rfl (by as_aux_lemma => kernel_rfl) (fun _ _ _ h => h) (by rfl) hHeld237 ?_)
                try simp only [Act.put, List.setIfInBounds_toArray, List.set_cons_zero, List.set_cons_succ]
                first | (refine held_take (i := 12) (v := ?_) rfl (by as_aux_lemma => kernel_rfl) (fun _ _ _ h => h) (by rfl) ?_ hHeld237 ?_; rotate_left; · (intro w' hSw; go_split_ands; go_simp; try with_reducible rfl)) | (refine held_skip (i := 12) rfl (by as_aux_lemma => kernel_rfl) (fun _ _ _ h => h) (by rfl) hHeld237 ?_)
                try simp only [Act.put, List.setIfInBounds_toArray, List.set_cons_zero, List.set_cons_succ]
                refine held_done (by as_aux_lemma => kernel_rfl) ?_
                go_wp2_with fail
                go_meet
                exact ⟨rfl, Hpr.out _ hHeld237⟩
              · as_aux_lemma =>
                have dP : (PT.length == 1) = false := beq_eq_false_iff_ne.2 hP1
                have dP2 : ((PT.length : Int) == 1) = false := beq_eq_false_iff_ne.2 (by omega)
                clear hP1
                go_quiet (fail)
                go_wp2_with fail
                go_meet
                exact ⟨rfl, by first | exact Below.refl _ _ | exact below_drewN (Below.refl _ _) _⟩
            case rest => as_aux_lemma =>
            obtain ⟨rfl, hbc⟩ := hcut
            obtain ⟨wd2, hu0⟩ : ∃ u, u = wc := ⟨_, rfl⟩
            subst hu0
            have hBz := hB229x.out.trans (hbc.mono hB229x.out.size)
            have HBz := Lib.hid hBz; clear hBz
            have hS9 := Hmk.out _ hbc
            have Hmk2 := Lib.hid (fun (v2 : World) (h : Below wd2.heap.size wd2 v2) => show v2.cell? ⟨b0, o0, none⟩ = some (.slice a0 dg cc0) ∧ Below wd2.heap.size wd2 v2 from ⟨by rw [h.cell (Nat.lt_of_lt_of_le hbw0 hbc.size)]; exact hS9.1, h⟩)
            clear Hmk Hpr hS9 hbc
            have Hmk := Hmk2; clear Hmk2
            have Hpr := Lib.hid (fun (v2 : World) (h : v2.cell? ⟨b0, o0, none⟩ = some (.slice a0 dg cc0) ∧ Below wd2.heap.size wd2 v2) => h.2)
            have hXP := Hc2.out
            go_upto_region 31 with fail
            refine held_begin (S := fun w' => w'.cell? ⟨b0, o0, none⟩ = some (.slice a0 dg cc0) ∧ Below wd2.heap.size wd2 w') 19 (by kernel_rfl) rfl ?_ (fun hHeld => ?_)
            · exact Hmk.out _ (Below.drew (Below.refl _ _))
            try simp only [Array.replicate]
            first | (refine held_take (i := 0) (v := ?_) rfl (by as_aux_lemma => kernel_rfl) (fun _ _ _ h => h) (by rfl) ?_ hHeld ?_; rotate_left; · (intro w' hSw; go_split_ands; go_simp; try with_reducible rfl)) | (refine held_skip (i := 0) rfl (by as_aux_lemma => kernel_rfl) (fun _ _ _ h => h) (by rfl) hHeld ?_)
            try simp only [Act.put, List.setIfInBounds_toArray, List.set_cons_zero, List.set_cons_succ]
            first | (refine held_take (i := 1) (v := ?_) rfl (by as_aux_lemma => kernel_rfl) (fun _ _ _ h => h) (by rfl) ?_ hHeld ?_; rotate_left; · (intro w' hSw; go_split_ands; go_simp; try with_reducible rfl)) | (refine held_skip (i := 1) rfl (by as_aux_lemma => kernel_rfl) (fun _ _ _ h => h) (by rfl) hHeld ?_)
            try simp only [Act.put, List.setIfInBounds_toArray, List.set_cons_zero, List.set_cons_succ]
            first | (refine held_take (i := 2) (v := ?_) rfl (by as_aux_lemma => kernel_rfl) (fun _ _ _ h => h) (by rfl) ?_ hHeld ?_; rotate_left; · (intro w' hSw; go_split_ands; go_simp; try with_reducible rfl)) | (refine held_skip (i := 2) rfl (by as_aux_lemma => kernel_rfl) (fun _ _ _ h => h) (by rfl) hHeld ?_)
            try simp only [Act.put, List.setIfInBounds_toArray, List.set_cons_zero, List.set_cons_succ]
            first | (refine held_take (i := 3) (v := ?_) rfl (by as_aux_lemma => kernel_rfl) (fun _ _ _ h => h) (by rfl) ?_ hHeld ?_; rotate_left; · (intro w' hSw; go_split_ands; go_simp; try with_reducible rfl)) | (refine held_skip (i := 3) rfl (by as_aux_lemma => kernel_rfl) (fun _ _ _ h => h) (by rfl) hHeld ?_)
            try simp only [Act.put, List.setIfInBounds_toArray, List.set_cons_zero, List.set_cons_succ]
            first | (refine held_take (i := 4) (v := ?_) rfl (by as_aux_lemma => kernel_rfl) (fun _ _ _ h => h) (by rfl) ?_ hHeld ?_; rotate_left; · (intro w' hSw; go_split_ands; go_simp; try with_reducible rfl)) | (refine held_skip (i := 4) rfl (by as_aux_lemma => kernel_rfl) (fun _ _ _ h => h) (by rfl) hHeld ?_)
            try simp only [Act.put, List.setIfInBounds_toArray, List.set_cons_zero, List.set_cons_succ]
            first | (refine held_take (i := 5) (v := ?_) rfl (by as_aux_lemma => kernel_rfl) (fun _ _ _ h => h) (by rfl) ?_ hHeld ?_; rotate_left; · (intro w' hSw; go_split_ands; go_simp; try with_reducible rfl)) | (refine held_skip (i := 5) rfl (by as_aux_lemma => kernel_rfl) (fun _ _ _ h => h) (by rfl) hHeld ?_)
            try simp only [Act.put, List.setIfInBounds_toArray, List.set_cons_zero, List.set_cons_succ]
            first | (refine held_take (i := 6) (v := ?_) rfl (by as_aux_lemma => kernel_rfl) (fun _ _ _ h => h) (by rfl) ?_ hHeld ?_; rotate_left; · (intro w' hSw; go_split_ands; go_simp; try with_reducible rfl)) | (refine held_skip (i := 6) rfl (by as_aux_lemma => kernel_rfl) (fun _ _ _ h => h) (by rfl) hHeld ?_)
            try simp only [Act.put, List.setIfInBounds_toArray, List.set_cons_zero, List.set_cons_succ]
            first | (refine held_take (i := 8) (v := ?_) rfl (by as_aux_lemma => kernel_rfl) (fun _ _ _ h => h) (by rfl) ?_ hHeld ?_; rotate_left; · (intro w' hSw; go_split_ands; go_simp; try with_reducible rfl)) | (refine held_skip (i := 8) rfl (by as_aux_lemma => kernel_rfl) (fun _ _ _ h => h) (by rfl) hHeld ?_)
            try simp only [Act.put, List.setIfInBounds_toArray, List.set_cons_zero, List.set_cons_succ]
            first | (refine held_take (i := 11) (v := ?_) rfl (by as_aux_lemma => kernel_rfl) (fun _ _ _ h => h) (by rfl) ?_ hHeld ?_; rotate_left; · (intro w' hSw; go_split_ands; go_simp; try with_reducible rfl)) | (refine held_skip (i := 11) rfl (by as_aux_lemma => kernel_rfl) (fun _ _ _ h => h) (by rfl) hHeld ?_)
            try simp only [Act.put, List.setIfInBounds_toArray, List.set_cons_zero, List.set_cons_succ]
            first | (refine held_take (i := 12) (v := ?_) rfl (by as_aux_lemma => kernel_rfl) (fun _ _ _ h => h) (by rfl) ?_ hHeld ?_; rotate_left; · (intro w' hSw; go_split_ands; go_simp; try with_reducible rfl)) | (refine held_skip (i := 12) rfl (by as_aux_lemma => kernel_rfl) (fun _ _ _ h => h) (by rfl) hHeld ?_)
            try simp only [Act.put, List.setIfInBounds_toArray, List.set_cons_zero, List.set_cons_succ]
            first | (refine held_take (i := 13) (v := ?_) rfl (by as_aux_lemma => kernel_rfl) (fun _ _ _ h => h) (by rfl) ?_ hHeld ?_; rotate_left; · (intro w' hSw; go_split_ands; go_simp; try with_reducible rfl)) | (refine held_skip (i := 13) rfl (by as_aux_lemma => kernel_rfl) (fun _ _ _ h => h) (by rfl) hHeld ?_)
            try simp only [Act.put, List.setIfInBounds_toArray, List.set_cons_zero, List.set_cons_succ]
            as_aux_lemma =>
            first | (refine held_take (i := 14) (v := ?_) rfl (by as_aux_lemma => kernel_rfl) (fun _ _ _ h => h) (by rfl) ?_ hHeld ?_; rotate_left; · (intro w' hSw; go_split_ands; go_simp; try with_reducible rfl)) | (refine held_skip (i := 14) rfl (by as_aux_lemma => kernel_rfl) (fun _ _ _ h => h) (by rfl) hHeld ?_)
            try simp only [Act.put, List.setIfInBounds_toArray, List.set_cons_zero, List.set_cons_succ]
            refine held_one (i := 7) rfl (by as_aux_lemma => kernel_rfl) (fun K hK => ?_)
            go_simp
            have hS238 := held_on Hmk.out hHeld (fun h => Hpr.out _ h) ((Below.refl _ _).alloc (Nat.le_refl _) (.cells #[.int .i64 (-1), .int .i64 0, .int .i64 (-2)] 3))
            clear hHeld
            go_simp
            refine hK.out _ _ hS238 (fun hHeld239 => ?_)
            clear hK K hS238
            try simp only [Act.put, List.setIfInBounds_toArray, List.set_cons_zero, List.set_cons_succ]
            first | (refine held_take (i := 9) (v := ?_) rfl (by as_aux_lemma => kernel_rfl) (fun _ _ _ h => h) (by rfl) ?_ hHeld239 ?_; rotate_left; · (intro w' hSw; go_split_ands; go_simp; try with_reducible rfl)) | (refine held_skip (i := 9) rfl (by as_aux_lemma => kernel_rfl) (fun _ _ _ h => h) (by rfl) hHeld239 ?_)
            try simp only [Act.put, List.setIfInBounds_toArray, List.set_cons_zero, List.set_cons_succ]
            refine held_one (i := 10) rfl (by as_aux_lemma => kernel_rfl) (fun K hK => ?_)
            go_simp
            have hS240 := hHeld239
            clear hHeld239
            go_simp
            refine hK.out _ _ hS240 (fun hHeld241 => ?_)
            clear hK K hS240
            try simp only [Act.put, List.setIfInBounds_toArray, List.set_cons_zero, List.set_cons_succ]
            first | (refine held_take (i := 15) (v := ?_) rfl (by as_aux_lemma => kernel_rfl) (fun _ _ _ h => h) (by rfl) ?_ hHeld241 ?_; rotate_left; · (intro w' hSw; go_split_ands; go_simp; try with_reducible rfl)) | (refine held_skip (i := 15) rfl (by as_aux_lemma => kernel_rfl) (fun _ _ _ h => h) (by rfl) hHeld241 ?_)
            try simp only [Act.put, List.setIfInBounds_toArray, List.set_cons_zero, List.set_cons_succ]
            first | (refine held_take (i := 16) (v := ?_) rfl (by as_aux_lemma => kernel_rfl) (fun _ _ _ h => h) (by rfl) ?_ hHeld241 ?_; rotate_left; · (intro w' hSw; go_split_ands; go_simp; try with_reducible rfl)) | (refine held_skip (i := 16) rfl (by as_aux_lemma => kernel_rfl) (fun _ _ _ h => h) (by rfl) hHeld241 ?_)
            try simp only [Act.put, List.setIfInBounds_toArray, List.set_cons_zero, List.set_cons_succ]
            first | (refine held_take (i := 17) (v := ?_) rfl (by as_aux_lemma => kernel_rfl) (fun _ _ _ h => h) (by rfl) ?_ hHeld241 ?_; rotate_left; · (intro w' hSw; go_split_ands; go_simp; try with_reducible rfl)) | (refine held_skip (i := 17) rfl (by as_aux_lemma => kernel_rfl) (fun _ _ _ h => h) (by rfl) hHeld241 ?_)
            try simp only [Act.put, List.setIfInBounds_toArray, List.set_cons_zero, List.set_cons_succ]
            first | (refine held_take (i := 18) (v := ?_) rfl (by as_aux_lemma => kernel_rfl) (fun _ _ _ h => h) (by rfl) ?_ hHeld241 ?_; rotate_left; · (intro w' hSw; go_split_ands; go_simp; try with_reducible rfl)) | (refine held_skip (i := 18) rfl (by as_aux_lemma => kernel_rfl) (fun _ _ _ h => h) (by rfl) hHeld241 ?_)
            try simp only [Act.put, List.setIfInBounds_toArray, List.set_cons_zero, List.set_cons_succ]
            refine held_done (by as_aux_lemma => kernel_rfl) ?_
            go_wp2
            go_ret
            exact ⟨by first | (simp; done) | (simp; decide) | (simp; rfl), HBz.out.trans ((Hpr.out _ hHeld241).mono HBz.out.size)⟩
      · as_aux_lemma =>
        have Hbase : Cv.base 1 = 0 := by decide
        rw [Hbase] at Hc7 Hc8; clear Hbase
        go_wp2_with fail
        go_loopw [18, 19, 20] (fun sv iv _ wr => ∃ k : Nat, k ≤ X.length ∧ iv = .int .i64 k ∧ sv = .int .i64 (PS k) ∧ Hid (Below w29.heap.size w29 wr)) (fun _ iv _ _ => X.length - (intOf iv).toNat)
        case atStart => exact ⟨0, Nat.zero_le _, rfl, by rw [Hc6.out], Lib.hid (Below.refl _ _)⟩
        case round =>
          obtain ⟨k, hk, rfl, rfl, hb⟩ := hrel
          by_cases hlt : k < X.length
          · as_aux_lemma =>
            have dlt : decide (k < X.length) = true := decide_eq_true hlt
            have i0 : (0 : Int) ≤ (k : Int) := by omega
            have i1 : (k : Int) < (X.length : Int) := by omega
            have hXl : X.length ≤ 1000000 := HtX.out
            have i2 : (k : Int) < (PT.length : Int) := by have := Hc2.out; omega
            obtain ⟨x, y, z, p, hx, hp, hI, hp5, hE, hS1, hS2, hS3⟩ := Hc8.out k hlt
            obtain ⟨bx, ox, hox, hbx, x0, x1, x2⟩ := sfCells_some (K222.out.below hb.out) hx
            subst hox
            obtain ⟨bp, op, ap, cp, hop, hbp, y0, _⟩ := ((HG220.out a66 PT (by simp)).below hb.out).get hp
            subst hop
            dsimp only at x0 x1 x2
            have HEu := Lib.hid (fun W => spec_EulerNumber x y z W hI)
            generalize Surf.euler x y z = E at *
            generalize p.length = pl at *
            have e0 : PS k + E = PS (k + 1) := hS1.symm
            obtain ⟨S2, hS4⟩ : ∃ S2, PS (k + 1) = S2 := ⟨_, rfl⟩
            rw [hS4] at e0
            have HS4 := Lib.hid hS4; clear hS4 hS1
            generalize PS k = S1 at *
            have e1 : IntKind.i64.wrap (S1 + E) = S2 := by rw [e0]; exact wrap_small (by omega) (by omega)
            have hE0 : E = 0 := by omega
            subst hE0
            have e4 : IntKind.i64.wrap S1 = S2 := by rw [show S1 = S2 by omega]; exact wrap_small (by omega) (by omega)
            clear hx hp hI hp5 hE hS2 hS3 e0
            go_wp2_with fail
            refine (HEu.out _).mono ?_
            rintro e w31 ⟨rfl, hb242⟩
            have Hk := Lib.hid (hb.out.trans (hb242.mono hb.out.size))
            have hbx2 := Nat.lt_of_lt_of_le hbx hb242.size; have hbp2 := Nat.lt_of_lt_of_le hbp hb242.size
            have Hmk := Lib.hid (fun (v2 : World) (h : Below w31.heap.size w31 v2) => show v2.cell? ⟨bx, ox + k * 3, none⟩ = some (.int .i64 x) ∧ v2.cell? ⟨bx, ox + k * 3 + 1, none⟩ = some (.int .i64 y) ∧ v2.cell? ⟨bx, ox + k * 3 + 2, none⟩ = some (.int .i64 z) ∧ v2.cell? ⟨bp, op + k, none⟩ = some (.slice ap pl cp) ∧ Below w31.heap.size w31 v2 from ⟨by rw [h.cell hbx2, hb242.cell hbx]; exact x0, by rw [h.cell hbx2, hb242.cell hbx]; exact x1, by rw [h.cell hbx2, hb242.cell hbx]; exact x2, by rw [h.cell hbp2, hb242.cell hbp]; exact y0, h⟩)
            have Hpr := Lib.hid (fun (v2 : World) (h : v2.cell? ⟨bx, ox + k * 3, none⟩ = some (.int .i64 x) ∧ v2.cell? ⟨bx, ox + k * 3 + 1, none⟩ = some (.int .i64 y) ∧ v2.cell? ⟨bx, ox + k * 3 + 2, none⟩ = some (.int .i64 z) ∧ v2.cell? ⟨bp, op + k, none⟩ = some (.slice ap pl cp) ∧ Below w31.heap.size w31 v2) => h.2.2.2.2)
            clear x0 x1 x2 y0 hbx hbp hbx2 hbp2 hb242
            go_upto_region 27 with fail
            refine held_begin (S := fun w' => w'.cell? ⟨bx, ox + k * 3, none⟩ = some (.int .i64 x) ∧ w'.cell? ⟨bx, ox + k * 3 + 1, none⟩ = some (.int .i64 y) ∧ w'.cell? ⟨bx, ox + k * 3 + 2, none⟩ = some (.int .i64 z) ∧ w'.cell? ⟨bp, op + k, none⟩ = some (.slice ap pl cp) ∧ Below w31.heap.size w31 w') 13 (by kernel_rfl) rfl ?_ (fun hHeld => ?_)
            · exact Hmk.out _ (Below.drew ((Below.refl _ _).alloc (Nat.le_refl _) _))
            try simp only [Array.replicate]
            first | (refine held_take (i := 0) (v := ?_) rfl (by as_aux_lemma => kernel_rfl) (fun _ _ _ h => h) (by rfl) ?_ hHeld ?_; rotate_left; · (intro w' hSw; go_split_ands; go_simp; try with_reducible rfl)) | (refine held_skip (i := 0) rfl (by as_aux_lemma => kernel_rfl) (fun _ _ _ h => h) (by rfl) hHeld ?_)
            try simp only [Act.put, List.setIfInBounds_toArray, List.set_cons_zero, List.set_cons_succ]
            first | (refine held_take (i := 1) (v := ?_) rfl (by as_aux_lemma => kernel_rfl) (fun _ _ _ h => h) (by rfl) ?_ hHeld ?_; rotate_left; · (intro w' hSw; go_split_ands; go_simp; try with_reducible rfl)) | (refine held_skip (i := 1) rfl (by as_aux_lemma => kernel_rfl) (fun _ _ _ h => h) (by rfl) hHeld ?_)
            try simp only [Act.put, List.setIfInBounds_toArray, List.set_cons_zero, List.set_cons_succ]
            first | (refine held_take (i := 2) (v := ?_) rfl (by as_aux_lemma => kernel_rfl) (fun _ _ _ h => h) (by rfl) ?_ hHeld ?_; rotate_left; · (intro w' hSw; go_split_ands; go_simp; try with_reducible rfl)) | (refine held_skip (i := 2) rfl (by as_aux_lemma => kernel_rfl) (fun _ _ _ h => h) (by rfl) hHeld ?_)
            try simp only [Act.put, List.setIfInBounds_toArray, List.set_cons_zero, List.set_cons_succ]
            first | (refine held_take (i := 3) (v := ?_) rfl (by as_aux_lemma => kernel_rfl) (fun _ _ _ h => h) (by rfl) ?_ hHeld ?_; rotate_left; · (intro w' hSw; go_split_ands; go_simp; try with_reducible rfl)) | (refine held_skip (i := 3) rfl (by as_aux_lemma => kernel_rfl) (fun _ _ _ h => h) (by rfl) hHeld ?_)
            try simp only [Act.put, List.setIfInBounds_toArray, List.set_cons_zero, List.set_cons_succ]
            first | (refine held_take (i := 5) (v := ?_) rfl (by as_aux_lemma => kernel_rfl) (fun _ _ _ h => h) (by rfl) ?_ hHeld ?_; rotate_left; · (intro w' hSw; go_split_ands; go_simp; try with_reducible rfl)) | (refine held_skip (i := 5) rfl (by as_aux_lemma => kernel_rfl) (fun _ _ _ h => h) (by rfl) hHeld ?_)
            try simp only [Act.put, List.setIfInBounds_toArray, List.set_cons_zero, List.set_cons_succ]
            first | (refine held_take (i := 6) (v := ?_) rfl (by as_aux_lemma => kernel_rfl) (fun _ _ _ h => h) (by rfl) ?_ hHeld ?_; rotate_left; · (intro w' hSw; go_split_ands; go_simp; try with_reducible rfl)) | (refine held_skip (i := 6) rfl (by as_aux_lemma => kernel_rfl) (fun _ _ _ h => h) (by rfl) hHeld ?_)
            try simp only [Act.put, List.setIfInBounds_toArray, List.set_cons_zero, List.set_cons_succ]
            first | (refine held_take (i := 7) (v := ?_) rfl (by as_aux_lemma => kernel_rfl) (fun _ _ _ h => h) (by rfl) ?_ hHeld ?_; rotate_left; · (intro w' hSw; go_split_ands; go_simp; try with_reducible rfl)) | (refine held_skip (i := 7) rfl (by as_aux_lemma => kernel_rfl) (fun _ _ _ h => h) (by rfl) hHeld ?_)
            try simp only [Act.put, List.setIfInBounds_toArray, List.set_cons_zero, List.set_cons_succ]
            first | (refine held_take (i := 8) (v := ?_) rfl (by as_aux_lemma => kernel_rfl) (fun _ _ _ h => h) (by rfl) ?_ hHeld ?_; rotate_left; · (intro w' hSw; go_split_ands; go_simp; try with_reducible rfl)) | (refine held_skip (i := 8) rfl (by as_aux_lemma => kernel_rfl) (fun _ _ _ h => h) (by rfl) hHeld ?_)
            try simp only [Act.put, List.setIfInBounds_toArray, List.set_cons_zero, List.set_cons_succ]
            first | (refine held_take (i := 9) (v := ?_) rfl (by as_aux_lemma => kernel_rfl) (fun _ _ _ h => h) (by rfl) ?_ hHeld ?_; rotate_left; · (intro w' hSw; go_split_ands; go_simp; try with_reducible rfl)) | (refine held_skip (i := 9) rfl (by as_aux_lemma => kernel_rfl) (fun _ _ _ h => h) (by rfl) hHeld ?_)
            try simp only [Act.put, List.setIfInBounds_toArray, List.set_cons_zero, List.set_cons_succ]
            first | (refine held_take (i := 10) (v := ?_) rfl (by as_aux_lemma => kernel_rfl) (fun _ _ _ h => h) (by rfl) ?_ hHeld ?_; rotate_left; · (intro w' hSw; go_split_ands; go_simp; try with_reducible rfl)) | (refine held_skip (i := 10) rfl (by as_aux_lemma => kernel_rfl) (fun _ _ _ h => h) (by rfl) hHeld ?_)
            try simp only [Act.put, List.setIfInBounds_toArray, List.set_cons_zero, List.set_cons_succ]
            first | (refine held_take (i := 11) (v := ?_) rfl (by as_aux_lemma => kernel_rfl) (fun _ _ _ h => h) (by rfl) ?_ hHeld ?_; rotate_left; · (intro w' hSw; go_split_ands; go_simp; try with_reducible rfl)) | (refine held_skip (i := 11) rfl (by as_aux_lemma => kernel_rfl) (fun _ _ _ h => h) (by rfl) hHeld ?_)
            try simp only [Act.put, List.setIfInBounds_toArray, List.set_cons_zero, List.set_cons_succ]
            as_aux_lemma =>
            refine held_one (i := 4) rfl (by as_aux_lemma => kernel_rfl) (fun K hK => ?_)
            go_simp
            go_at_call 28
            refine (HEu.out _).mono ?_
            rintro e v244 ⟨rfl, hb245⟩
            have hS243 := held_on Hmk.out hHeld (fun h => Hpr.out _ h) hb245
            clear hb245 hHeld
            go_simp
            refine hK.out _ _ hS243 (fun hHeld246 => ?_)
            clear hK K hS243
            try simp only [Act.put, List.setIfInBounds_toArray, List.set_cons_zero, List.set_cons_succ]
            first | (refine held_take (i := 12) (v := ?_) rfl (by as_aux_lemma => kernel_rfl) (fun _ _ _ h => h) (by rfl) ?_ hHeld246 ?_; rotate_left; · (intro w' hSw; go_split_ands; go_simp; try with_reducible rfl)) | (refine held_skip (i := 12) rfl (by as_aux_lemma => kernel_rfl) (fun _ _ _ h => h) (by rfl) hHeld246 ?_)
            try simp only [Act.put, List.setIfInBounds_toArray, List.set_cons_zero, List.set_cons_succ]
            refine held_done (by as_aux_lemma => kernel_rfl) ?_
            go_wp2
            go_roundw
            case rel => exact ⟨k + 1, by omega, by go_num, by rw [HS4.out], Lib.hid (Hk.out.trans ((Hpr.out _ hHeld246).mono Hk.out.size))⟩
            case measure => simp [intOf]; omega
          · as_aux_lemma =>
            obtain rfl : k = X.length := by omega
            have dlt : decide (X.length < X.length) = false := decide_eq_false (by omega)
            rw [Hc7.out]
            clear hlt hk
            have hB247 : Below w.heap.size w wr := hB219x.out.trans (hb.out.mono hB219x.out.size)
            have hB247x := Lib.hid hB247; clear hB247
            have HG248 := Lib.hid (HG220.out.below hb.out)
            clear HG220
            have HR249 := Lib.hid (HR221.out.below hb.out)
            clear HR221
            have K250 := Lib.hid (K222.out.below hb.out); clear K222
            have K251 := Lib.hid (K223.out.below hb.out); clear K223
            clear hb
            obtain ⟨r, hr, hrl⟩ := HfH.out c4
            obtain ⟨b0, o0, a0, cc0, hb00, hbw0, hcell0, _⟩ := (HG248.out aL L (by simp)).get hr
            rw [Nat.add_zero, hrl] at hcell0
            subst hb00
            clear hr hrl
            have il : 0 < L.length := by omega
            obtain ⟨T, hT⟩ : ∃ T : Int, 0 * (dg : Int) = T := ⟨_, rfl⟩
            have hT0 : T = 0 := by omega
            rw [hT]
            subst hT0
            clear hT c3
            have Hl4 := Lib.hid hL4; clear hL4 c4 hG0 hG1 g0 g2 hA0 hA1 hm0 hm1
            have Hmk := Lib.hid (fun (v2 : World) (h : Below wr.heap.size wr v2) => show v2.cell? ⟨b0, o0, none⟩ = some (.slice a0 dg cc0) ∧ Below wr.heap.size wr v2 from ⟨by rw [h.cell hbw0]; exact hcell0, h⟩)
            have Hpr := Lib.hid (fun (v2 : World) (h : v2.cell? ⟨b0, o0, none⟩ = some (.slice a0 dg cc0) ∧ Below wr.heap.size wr v2) => h.2)
            have Hgl := Lib.hid (HG248.out (some ⟨b0, o0, none⟩) L (by simp))
            clear hcell0
            go_upto_region 29 with fail
            go_cut [211] from 21 (fun sv wx => sv = .bool false ∧ Below wr.heap.size wr wx)
            case first => as_aux_lemma =>
              by_cases hP1 : PT.length = 1
              · as_aux_lemma =>
                obtain ⟨s1, s2⟩ := Hc9.out hP1
                have s0 : SY ≠ 0 := by omega
                have s4 : (SY == 0) = false := beq_eq_false_iff_ne.2 s0
                have s3 : IntKind.i64.wrap (Int.tmod (dg : Int) SY) = 0 := by rw [s2]; rfl
                have dP : (PT.length == 1) = true := by simp [hP1]
                have dP2 : ((PT.length : Int) == 1) = true := beq_iff_eq.2 (by omega)
                clear hP1
                clear s1
                refine held_begin (S := fun w' => w'.cell? ⟨b0, o0, none⟩ = some (.slice a0 dg cc0) ∧ Below wr.heap.size wr w') 13 (by kernel_rfl) rfl ?_ (fun hHeld => ?_)
                · exact Hmk.out _ (Below.drew (Below.refl _ _))
                try simp only [Array.replicate]
                first | (refine held_take (i := 0) (v := ?_) rfl (by as_aux_lemma => kernel_rfl) (fun _ _ _ h => h) (by rfl) ?_ hHeld ?_; rotate_left; · (intro w' hSw; go_split_ands; go_simp; try with_reducible rfl)) | (refine held_skip (i := 0) rfl (by as_aux_lemma => kernel_rfl) (fun _ _ _ h => h) (by rfl) hHeld ?_)
                try simp only [Act.put, List.setIfInBounds_toArray, List.set_cons_zero, List.set_cons_succ]
                first | (refine held_take (i := 1) (v := ?_) rfl (by as_aux_lemma => kernel_rfl) (fun _ _ _ h => h) (by rfl) ?_ hHeld ?_; rotate_left; · (intro w' hSw; go_split_ands; go_simp; try with_reducible rfl)) | (refine held_skip (i := 1) rfl (by as_aux_lemma => kernel_rfl) (fun _ _ _ h => h) (by rfl) hHeld ?_)
                try simp only [Act.put, List.setIfInBounds_toArray, List.set_cons_zero, List.set_cons_succ]
                first | (refine held_take (i := 2) (v := ?_) rfl (by as_aux_lemma => kernel_rfl) (fun _ _ _ h => h) (by rfl) ?_ hHeld ?_; rotate_left; · (intro w' hSw; go_split_ands; go_simp; try with_reducible rfl)) | (refine held_skip (i := 2) rfl (by as_aux_lemma => kernel_rfl) (fun _ _ _ h => h) (by rfl) hHeld ?_)
                try simp only [Act.put, List.setIfInBounds_toArray, List.set_cons_zero, List.set_cons_succ]
                first | (refine held_take (i := 3) (v := ?_) rfl (by as_aux_lemma => kernel_rfl) (fun _ _ _ h => h) (by rfl) ?_ hHeld ?_; rotate_left; · (intro w' hSw; go_split_ands; go_simp; try with_reducible rfl)) | (refine held_skip (i := 3) rfl (by as_aux_lemma => kernel_rfl) (fun _ _ _ h => h) (by rfl) hHeld ?_)
                try simp only [Act.put, List.setIfInBounds_toArray, List.set_cons_zero, List.set_cons_succ]
                first | (refine held_take (i := 4) (v := ?_) rfl (by as_aux_lemma => kernel_rfl) (fun _ _ _ h => h) (by rfl) ?_ hHeld ?_; rotate_left; · (intro w' hSw; go_split_ands; go_simp; try with_reducible rfl)) | (refine held_skip (i := 4) rfl (by as_aux_lemma => kernel_rfl) (fun _ _ _ h => h) (by rfl) hHeld ?_)
                try simp only [Act.put, List.setIfInBounds_toArray, List.set_cons_zero, List.set_cons_succ]
                first | (refine held_take (i := 5) (v := ?_) rfl (by as_aux_lemma => kernel_rfl) (fun _ _ _ h => h) (by rfl) ?_ hHeld ?_; rotate_left; · (intro w' hSw; go_split_ands; go_simp; try with_reducible rfl)) | (refine held_skip (i := 5) rfl (by as_aux_lemma => kernel_rfl) (fun _ _ _ h => h) (by rfl) hHeld ?_)
                try simp only [Act.put, List.setIfInBounds_toArray, List.set_cons_zero, List.set_cons_succ]
                first | (refine held_take (i := 6) (v := ?_) rfl (by as_aux_lemma => kernel_rfl) (fun _ _ _ h => h) (by rfl) ?_ hHeld ?_; rotate_left; · (intro w' hSw; go_split_ands; go_simp; try with_reducible rfl)) | (refine held_skip (i := 6) rfl (by as_aux_lemma => kernel_rfl) (fun _ _ _ h => h) (by rfl) hHeld ?_)
                try simp only [Act.put, List.setIfInBounds_toArray, List.set_cons_zero, List.set_cons_succ]
                first | (refine held_take (i := 7) (v := ?_) rfl (by as_aux_lemma => kernel_rfl) (fun _ _ _ h => h) (by rfl) ?_ hHeld ?_; rotate_left; · (intro w' hSw; go_split_ands; go_simp; try with_reducible rfl)) | (refine held_skip (i := 7) rfl (by as_aux_lemma => kernel_rfl) (fun _ _ _ h => h) (by rfl) hHeld ?_)
                try simp only [Act.put, List.setIfInBounds_toArray, List.set_cons_zero, List.set_cons_succ]
                first | (refine held_take (i := 8) (v := ?_) rfl (by as_aux_lemma => kernel_rfl) (fun _ _ _ h => h) (by rfl) ?_ hHeld ?_; rotate_left; · (intro w' hSw; go_split_ands; go_simp; try with_reducible rfl)) | (refine held_skip (i := 8) rfl (by as_aux_lemma => kernel_rfl) (fun _ _ _ h => h) (by rfl) hHeld ?_)
                try simp only [Act.put, List.setIfInBounds_toArray, List.set_cons_zero, List.set_cons_succ]
                refine held_one (i := 9) rfl (by as_aux_lemma => kernel_rfl) (fun K hK => ?_)
                go_simp
                go_at_call 25
                refine (HciS.out (some ⟨b0, o0, none⟩) cL _ (Hgl.out.below (Hpr.out _ hHeld))).mono ?_
                rintro e v253 ⟨rfl, hb254⟩
                have hS252 := held_on Hmk.out hHeld (fun h => Hpr.out _ h) hb254
                clear hb254 hHeld
                go_simp
                refine hK.out _ _ hS252 (fun hHeld255 => ?_)
                clear hK K hS252
                try simp only [Act.put, List.setIfInBounds_toArray, List.set_cons_zero, List.set_cons_succ]
                first | (refine held_take (i := 10) (v := ?_) rfl (by as_aux_lemma => kernel_rfl) (fun _ _ _ h => h) (by rfl) ?_ hHeld255 ?_; rotate_left; · (intro w' hSw; go_split_ands; go_simp; try with_reducible rfl)) | (refine held_skip (i := 10) rfl (by as_aux_lemma => kernel_rfl) (fun _ _ _ h => h) (by rfl) hHeld255 ?_)
                try simp only [Act.put, List.setIfInBounds_toArray, List.set_cons_zero, List.set_cons_succ]
                as_aux_lemma =>
                first | (refine held_take (i := 11) (v := ?_) rfl (by as_aux_lemma => kernel_rfl) (fun _ _ _ h => h) (by rfl) ?_ hHeld255 ?_; rotate_left; · (intro w' hSw; go_split_ands; go_simp; try with_reducible rfl)) | (refine held_skip (i := 11) rfl (by as_aux_lemma => kernel_rfl) (fun _ _ _ h => h) (by rfl) hHeld255 ?_)
                try simp only [Act.put, List.setIfInBounds_toArray, List.set_cons_zero, List.set_cons_succ]
                first | (refine held_take (i := 12) (v := ?_) rfl (by as_aux_lemma => kernel_rfl) (fun _ _ _ h => h) (by rfl) ?_ hHeld255 ?_; rotate_left; · (intro w' hSw; go_split_ands; go_simp; try with_reducible rfl)) | (refine held_skip (i := 12) rfl (by as_aux_lemma => kernel_rfl) (fun _ _ _ h => h) (by rfl) hHeld255 ?_)
                try simp only [Act.put, List.setIfInBounds_toArray, List.set_cons_zero, List.set_cons_succ]
                refine held_done (by as_aux_lemma => kernel_rfl) ?_
                go_wp2_with fail
                go_meet
                exact ⟨rfl, Hpr.out _ hHeld255⟩
              · as_aux_lemma =>
                have dP : (PT.length == 1) = false := beq_eq_false_iff_ne.2 hP1
                have dP2 : ((PT.length : Int) == 1) = false := beq_eq_false_iff_ne.2 (by omega)
                clear hP1
                go_quiet (fail)
                go_wp2_with fail
                go_meet
                exact ⟨rfl, by first | exact Below.refl _ _ | exact below_drewN (Below.refl _ _) _⟩
            case rest => as_aux_lemma =>
            obtain ⟨rfl, hbc⟩ := hcut
            obtain ⟨wd2, hu0⟩ : ∃ u, u = wc := ⟨_, rfl⟩
            subst hu0
            have hBz := hB247x.out.trans (hbc.mono hB247x.out.size)
            have HBz := Lib.hid hBz; clear hBz
            have hS9 := Hmk.out _ hbc
            have Hmk2 := Lib.hid (fun (v2 : World) (h : Below wd2.heap.size wd2 v2) => show v2.cell? ⟨b0, o0, none⟩ = some (.slice a0 dg cc0) ∧ Below wd2.heap.size wd2 v2 from ⟨by rw [h.cell (Nat.lt_of_lt_of_le hbw0 hbc.size)]; exact hS9.1, h⟩)
            clear Hmk Hpr hS9 hbc
            have Hmk := Hmk2; clear Hmk2
            have Hpr := Lib.hid (fun (v2 : World) (h : v2.cell? ⟨b0, o0, none⟩ = some (.slice a0 dg cc0) ∧ Below wd2.heap.size wd2 v2) => h.2)
            have hXP := Hc2.out
            go_upto_region 31 with fail
            refine held_begin (S := fun w' => w'.cell? ⟨b0, o0, none⟩ = some (.slice a0 dg cc0) ∧ Below wd2.heap.size wd2 w') 19 (by kernel_rfl) rfl ?_ (fun hHeld => ?_)
            · exact Hmk.out _ (Below.drew (Below.refl _ _))
            try simp only [Array.replicate]
            first | (refine held_take (i := 0) (v := ?_) rfl (by as_aux_lemma => kernel_rfl) (fun _ _ _ h => h) (by rfl) ?_ hHeld ?_; rotate_left; · (intro w' hSw; go_split_ands; go_simp; try with_reducible rfl)) | (refine held_skip (i := 0) rfl (by as_aux_lemma => kernel_rfl) (fun _ _ _ h => h) (by rfl) hHeld ?_)
            try simp only [Act.put, List.setIfInBounds_toArray, List.set_cons_zero, List.set_cons_succ]
            first | (refine held_take (i := 1) (v := ?_) rfl (by as_aux_lemma => kernel_rfl) (fun _ _ _ h => h) (by rfl) ?_ hHeld ?_; rotate_left; · (intro w' hSw; go_split_ands; go_simp; try with_reducible rfl)) | (refine held_skip (i := 1) rfl (by as_aux_lemma => kernel_rfl) (fun _ _ _ h => h) (by rfl) hHeld ?_)
            try simp only [Act.put, List.setIfInBounds_toArray, List.set_cons_zero, List.set_cons_succ]
            first | (refine held_take (i := 2) (v := ?_) rfl (by as_aux_lemma => kernel_rfl) (fun _ _ _ h => h) (by rfl) ?_ hHeld ?_; rotate_left; · (intro w' hSw; go_split_ands; go_simp; try with_reducible rfl)) | (refine held_skip (i := 2) rfl (by as_aux_lemma => kernel_rfl) (fun _ _ _ h => h) (by rfl) hHeld ?_)
            try simp only [Act.put, List.setIfInBounds_toArray, List.set_cons_zero, List.set_cons_succ]
            first | (refine held_take (i := 3) (v := ?_) rfl (by as_aux_lemma => kernel_rfl) (fun _ _ _ h => h) (by rfl) ?_ hHeld ?_; rotate_left; · (intro w' hSw; go_split_ands; go_simp; try with_reducible rfl)) | (refine held_skip (i := 3) rfl (by as_aux_lemma => kernel_rfl) (fun _ _ _ h => h) (by rfl) hHeld ?_)
            try simp only [Act.put, List.setIfInBounds_toArray, List.set_cons_zero, List.set_cons_succ]
            first | (refine held_take (i := 4) (v := ?_) rfl (by as_aux_lemma => kernel_rfl) (fun _ _ _ h => h) (by rfl) ?_ hHeld ?_; rotate_left; · (intro w' hSw; go_split_ands; go_simp; try with_reducible rfl)) | (refine held_skip (i := 4) rfl (by as_aux_lemma => kernel_rfl) (fun _ _ _ h => h) (by rfl) hHeld ?_)
            try simp only [Act.put, List.setIfInBounds_toArray, List.set_cons_zero, List.set_cons_succ]
            first | (refine held_take (i := 5) (v := ?_) rfl (by as_aux_lemma => kernel_rfl) (fun _ _ _ h => h) (by rfl) ?_ hHeld ?_; rotate_left; · (intro w' hSw; go_split_ands; go_simp; try with_reducible rfl)) | (refine held_skip (i := 5) rfl (by as_aux_lemma => kernel_rfl) (fun _ _ _ h => h) (by rfl) hHeld ?_)
            try simp only [Act.put, List.setIfInBounds_toArray, List.set_cons_zero, List.set_cons_succ]
            first | (refine held_take (i := 6) (v := ?_) rfl (by as_aux_lemma => kernel_rfl) (fun _ _ _ h => h) (by rfl) ?_ hHeld ?_; rotate_left; · (intro w' hSw; go_split_ands; go_simp; try with_reducible rfl)) | (refine held_skip (i := 6) rfl (by as_aux_lemma => kernel_rfl) (fun _ _ _ h => h) (by rfl) hHeld ?_)
            try simp only [Act.put, List.setIfInBounds_toArray, List.set_cons_zero, List.set_cons_succ]
            first | (refine held_take (i := 8) (v := ?_) rfl (by as_aux_lemma => kernel_rfl) (fun _ _ _ h => h) (by rfl) ?_ hHeld ?_; rotate_left; · (intro w' hSw; go_split_ands; go_simp; try with_reducible rfl)) | (refine held_skip (i := 8) rfl (by as_aux_lemma => kernel_rfl) (fun _ _ _ h => h) (by rfl) hHeld ?_)
            try simp only [Act.put, List.setIfInBounds_toArray, List.set_cons_zero, List.set_cons_succ]
            first | (refine held_take (i := 11) (v := ?_) rfl (by as_aux_lemma => kernel_rfl) (fun _ _ _ h => h) (by rfl) ?_ hHeld ?_; rotate_left; · (intro w' hSw; go_split_ands; go_simp; try with_reducible rfl)) | (refine held_skip (i := 11) rfl (by as_aux_lemma => kernel_rfl) (fun _ _ _ h => h) (by rfl) hHeld ?_)
            try simp only [Act.put, List.setIfInBounds_toArray, List.set_cons_zero, List.set_cons_succ]
            first | (refine held_take (i := 12) (v := ?_) rfl (by as_aux_lemma => kernel_rfl) (fun _ _ _ h => h) (by rfl) ?_ hHeld ?_; rotate_left; · (intro w' hSw; go_split_ands; go_simp; try with_reducible rfl)) | (refine held_skip (i := 12) rfl (by as_aux_lemma => kernel_rfl) (fun _ _ _ h => h) (by rfl) hHeld ?_)
            try simp only [Act.put, List.setIfInBounds_toArray, List.set_cons_zero, List.set_cons_succ]
            first | (refine held_take (i := 13) (v := ?_) rfl (by as_aux_lemma => kernel_rfl) (fun _ _ _ h => h) (by rfl) ?_ hHeld ?_; rotate_left; · (intro w' hSw; go_split_ands; go_simp; try with_reducible rfl)) | (refine held_skip (i := 13) rfl (by as_aux_lemma => kernel_rfl) (fun _ _ _ h => h) (by rfl) hHeld ?_)
            try simp only [Act.put, List.setIfInBounds_toArray, List.set_cons_zero, List.set_cons_succ]
            as_aux_lemma =>
            first | (refine held_take (i := 14) (v := ?_) rfl (by as_aux_lemma => kernel_rfl) (fun _ _ _ h => h) (by rfl) ?_ hHeld ?_; rotate_left; · (intro w' hSw; go_split_ands; go_simp; try with_reducible rfl)) | (refine held_skip (i := 14) rfl (by as_aux_lemma => kernel_rfl) (fun _ _ _ h => h) (by rfl) hHeld ?_)
            try simp only [Act.put, List.setIfInBounds_toArray, List.set_cons_zero, List.set_cons_succ]
            refine held_one (i := 7) rfl (by as_aux_lemma => kernel_rfl) (fun K hK => ?_)
            go_simp
            have hS256 := held_on Hmk.out hHeld (fun h => Hpr.out _ h) ((Below.refl _ _).alloc (Nat.le_refl _) (.cells #[.int .i64 (-1), .int .i64 0, .int .i64 (-2)] 3))
            clear hHeld
            go_simp
            refine hK.out _ _ hS256 (fun hHeld257 => ?_)
            clear hK K hS256
            try simp only [Act.put, List.setIfInBounds_toArray, List.set_cons_zero, List.set_cons_succ]
            first | (refine held_take (i := 9) (v := ?_) rfl (by as_aux_lemma => kernel_rfl) (fun _ _ _ h => h) (by rfl) ?_ hHeld257 ?_; rotate_left; · (intro w' hSw; go_split_ands; go_simp; try with_reducible rfl)) | (refine held_skip (i := 9) rfl (by as_aux_lemma => kernel_rfl) (fun _ _ _ h => h) (by rfl) hHeld257 ?_)
            try simp only [Act.put, List.setIfInBounds_toArray, List.set_cons_zero, List.set_cons_succ]
            refine held_one (i := 10) rfl (by as_aux_lemma => kernel_rfl) (fun K hK => ?_)
            go_simp
            have hS258 := hHeld257
            clear hHeld257
            go_simp
            refine hK.out _ _ hS258 (fun hHeld259 => ?_)
            clear hK K hS258
            try simp only [Act.put, List.setIfInBounds_toArray, List.set_cons_zero, List.set_cons_succ]
            first | (refine held_take (i := 15) (v := ?_) rfl (by as_aux_lemma => kernel_rfl) (fun _ _ _ h => h) (by rfl) ?_ hHeld259 ?_; rotate_left; · (intro w' hSw; go_split_ands; go_simp; try with_reducible rfl)) | (refine held_skip (i := 15) rfl (by as_aux_lemma => kernel_rfl) (fun _ _ _ h => h) (by rfl) hHeld259 ?_)
            try simp only [Act.put, List.setIfInBounds_toArray, List.set_cons_zero, List.set_cons_succ]
            first | (refine held_take (i := 16) (v := ?_) rfl (by as_aux_lemma => kernel_rfl) (fun _ _ _ h => h) (by rfl) ?_ hHeld259 ?_; rotate_left; · (intro w' hSw; go_split_ands; go_simp; try with_reducible rfl)) | (refine held_skip (i := 16) rfl (by as_aux_lemma => kernel_rfl) (fun _ _ _ h => h) (by rfl) hHeld259 ?_)
            try simp only [Act.put, List.setIfInBounds_toArray, List.set_cons_zero, List.set_cons_succ]
            first | (refine held_take (i := 17) (v := ?_) rfl (by as_aux_lemma => kernel_rfl) (fun _ _ _ h => h) (by rfl) ?_ hHeld259 ?_; rotate_left; · (intro w' hSw; go_split_ands; go_simp; try with_reducible rfl)) | (refine held_skip (i := 17) rfl (by as_aux_lemma => kernel_rfl) (fun _ _ _ h => h) (by rfl) hHeld259 ?_)
            try simp only [Act.put, List.setIfInBounds_toArray, List.set_cons_zero, List.set_cons_succ]
            first | (refine held_take (i := 18) (v := ?_) rfl (by as_aux_lemma => kernel_rfl) (fun _ _ _ h => h) (by rfl) ?_ hHeld259 ?_; rotate_left; · (intro w' hSw; go_split_ands; go_simp; try with_reducible rfl)) | (refine held_skip (i := 18) rfl (by as_aux_lemma => kernel_rfl) (fun _ _ _ h => h) (by rfl) hHeld259 ?_)
            try simp only [Act.put, List.setIfInBounds_toArray, List.set_cons_zero, List.set_cons_succ]
            refine held_done (by as_aux_lemma => kernel_rfl) ?_
            go_wp2
            go_ret
            exact ⟨by first | (simp; done) | (simp; decide) | (simp; rfl), HBz.out.trans ((Hpr.out _ hHeld259).mono HBz.out.size)⟩
      · as_aux_lemma =>
        have Hbase : Cv.base 2 = -2 := by decide
        rw [Hbase] at Hc7 Hc8; clear Hbase
        go_wp2_with fail
        go_loopw [18, 19, 20] (fun sv iv _ wr => ∃ k : Nat, k ≤ X.length ∧ iv = .int .i64 k ∧ sv = .int .i64 (PS k) ∧ Hid (Below w29.heap.size w29 wr)) (fun _ iv _ _ => X.length - (intOf iv).toNat)
        case atStart => exact ⟨0, Nat.zero_le _, rfl, by rw [Hc6.out], Lib.hid (Below.refl _ _)⟩
        case round =>
          obtain ⟨k, hk, rfl, rfl, hb⟩ := hrel
          by_cases hlt : k < X.length
          · as_aux_lemma =>
            have dlt : decide (k < X.length) = true := decide_eq_true hlt
            have i0 : (0 : Int) ≤ (k : Int) := by omega
            have i1 : (k : Int) < (X.length : Int) := by omega
            have hXl : X.length ≤ 1000000 := HtX.out
            have i2 : (k : Int) < (PT.length : Int) := by have := Hc2.out; omega
            obtain ⟨x, y, z, p, hx, hp, hI, hp5, hE, hS1, hS2, hS3⟩ := Hc8.out k hlt
            obtain ⟨bx, ox, hox, hbx, x0, x1, x2⟩ := sfCells_some (K222.out.below hb.out) hx
            subst hox
            obtain ⟨bp, op, ap, cp, hop, hbp, y0, _⟩ := ((HG220.out a66 PT (by simp)).below hb.out).get hp
            subst hop
            dsimp only at x0 x1 x2
            have HEu := Lib.hid (fun W => spec_EulerNumber x y z W hI)
            generalize Surf.euler x y z = E at *
            generalize p.length = pl at *
            have e0 : PS k + E = PS (k + 1) := hS1.symm
            obtain ⟨S2, hS4⟩ : ∃ S2, PS (k + 1) = S2 := ⟨_, rfl⟩
            rw [hS4] at e0
            have HS4 := Lib.hid hS4; clear hS4 hS1
            generalize PS k = S1 at *
            have e1 : IntKind.i64.wrap (S1 + E) = S2 := by rw [e0]; exact wrap_small (by omega) (by omega)
            have e2 : IntKind.i64.wrap (-2 * (pl : Int)) = E := by rw [show -2 * (pl : Int) = E by omega]; exact wrap_small (by omega) (by omega)
            clear hx hp hI hp5 hE hS2 hS3 e0
            go_wp2_with fail
            refine (HEu.out _).mono ?_
            rintro e w32 ⟨rfl, hb260⟩
            have Hk := Lib.hid (hb.out.trans (hb260.mono hb.out.size))
            have hbx2 := Nat.lt_of_lt_of_le hbx hb260.size; have hbp2 := Nat.lt_of_lt_of_le hbp hb260.size
            have Hmk := Lib.hid (fun (v2 : World) (h : Below w32.heap.size w32 v2) => show v2.cell? ⟨bx, ox + k * 3, none⟩ = some (.int .i64 x) ∧ v2.cell? ⟨bx, ox + k * 3 + 1, none⟩ = some (.int .i64 y) ∧ v2.cell? ⟨bx, ox + k * 3 + 2, none⟩ = some (.int .i64 z) ∧ v2.cell? ⟨bp, op + k, none⟩ = some (.slice ap pl cp) ∧ Below w32.heap.size w32 v2 from ⟨by rw [h.cell hbx2, hb260.cell hbx]; exact x0, by rw [h.cell hbx2, hb260.cell hbx]; exact x1, by rw [h.cell hbx2, hb260.cell hbx]; exact x2, by rw [h.cell hbp2, hb260.cell hbp]; exact y0, h⟩)
            have Hpr := Lib.hid (fun (v2 : World) (h : v2.cell? ⟨bx, ox + k * 3, none⟩ = some (.int .i64 x) ∧ v2.cell? ⟨bx, ox + k * 3 + 1, none⟩ = some (.int .i64 y) ∧ v2.cell? ⟨bx, ox + k * 3 + 2, none⟩ = some (.int .i64 z) ∧ v2.cell? ⟨bp, op + k, none⟩ = some (.slice ap pl cp) ∧ Below w32.heap.size w32 v2) => h.2.2.2.2)
            clear x0 x1 x2 y0 hbx hbp hbx2 hbp2 hb260
            go_upto_region 27 with fail
            refine held_begin (S := fun w' => w'.cell? ⟨bx, ox + k * 3, none⟩ = some (.int .i64 x) ∧ w'.cell? ⟨bx, ox + k * 3 + 1, none⟩ = some (.int .i64 y) ∧ w'.cell? ⟨bx, ox + k * 3 + 2, none⟩ = some (.int .i64 z) ∧ w'.cell? ⟨bp, op + k, none⟩ = some (.slice ap pl cp) ∧ Below w32.heap.size w32 w') 13 (by kernel_rfl) rfl ?_ (fun hHeld => ?_)
            · exact Hmk.out _ (Below.drew ((Below.refl _ _).alloc (Nat.le_refl _) _))
            try simp only [Array.replicate]
            first | (refine held_take (i := 0) (v := ?_) rfl (by as_aux_lemma => kernel_rfl) (fun _ _ _ h => h) (by rfl) ?_ hHeld ?_; rotate_left; · (intro w' hSw; go_split_ands; go_simp; try with_reducible rfl)) | (refine held_skip (i := 0) rfl (by as_aux_lemma => kernel_rfl) (fun _ _ _ h => h) (by rfl) hHeld ?_)
            try simp only [Act.put, List.setIfInBounds_toArray, List.set_cons_zero, List.set_cons_succ]
            first | (refine held_take (i := 1) (v := ?_) rfl (by as_aux_lemma => kernel_rfl) (fun _ _ _ h => h) (by rfl) ?_ hHeld ?_; rotate_left; · (intro w' hSw; go_split_ands; go_simp; try with_reducible rfl)) | (refine held_skip (i := 1) rfl (by as_aux_lemma => kernel_rfl) (fun _ _ _ h => h) (by rfl) hHeld ?_)
            try simp only [Act.put, List.setIfInBounds_toArray, List.set_cons_zero, List.set_cons_succ]
            first | (refine held_take (i := 2) (v := ?_) rfl (by as_aux_lemma => kernel_rfl) (fun _ _ _ h => h) (by rfl) ?_ hHeld ?_; rotate_left; · (intro w' hSw; go_split_ands; go_simp; try with_reducible rfl)) | (refine held_skip (i := 2) rfl (by as_aux_lemma => kernel_rfl) (fun _ _ _ h => h) (by rfl) hHeld ?_)
            try simp only [Act.put, List.setIfInBounds_toArray, List.set_cons_zero, List.set_cons_succ]
            first | (refine held_take (i := 3) (v := ?_) rfl (by as_aux_lemma => kernel_rfl) (fun _ _ _ h => h) (by rfl) ?_ hHeld ?_; rotate_left; · (intro w' hSw; go_split_ands; go_simp; try with_reducible rfl)) | (refine held_skip (i := 3) rfl (by as_aux_lemma => kernel_rfl) (fun _ _ _ h => h) (by rfl) hHeld ?_)
            try simp only [Act.put, List.setIfInBounds_toArray, List.set_cons_zero, List.set_cons_succ]
            first | (refine held_take (i := 5) (v := ?_) rfl (by as_aux_lemma => kernel_rfl) (fun _ _ _ h => h) (by rfl) ?_ hHeld ?_; rotate_left; · (intro w' hSw; go_split_ands; go_simp; try with_reducible rfl)) | (refine held_skip (i := 5) rfl (by as_aux_lemma => kernel_rfl) (fun _ _ _ h => h) (by rfl) hHeld ?_)
            try simp only [Act.put, List.setIfInBounds_toArray, List.set_cons_zero, List.set_cons_succ]
            first | (refine held_take (i := 6) (v := ?_) rfl (by as_aux_lemma => kernel_rfl) (fun _ _ _ h => h) (by rfl) ?_ hHeld ?_; rotate_left; · (intro w' hSw; go_split_ands; go_simp; try with_reducible rfl)) | (refine held_skip (i := 6) rfl (by as_aux_lemma => kernel_rfl) (fun _ _ _ h => h) (by rfl) hHeld ?_)
            try simp only [Act.put, List.setIfInBounds_toArray, List.set_cons_zero, List.set_cons_succ]
            first | (refine held_take (i := 7) (v := ?_) rfl (by as_aux_lemma => kernel_rfl) (fun _ _ _ h => h) (by rfl) ?_ hHeld ?_; rotate_left; · (intro w' hSw; go_split_ands; go_simp; try with_reducible rfl)) | (refine held_skip (i := 7) rfl (by as_aux_lemma => kernel_rfl) (fun _ _ _ h => h) (by rfl) hHeld ?_)
            try simp only [Act.put, List.setIfInBounds_toArray, List.set_cons_zero, List.set_cons_succ]
            first | (refine held_take (i := 8) (v := ?_) rfl (by as_aux_lemma => kernel_rfl) (fun _ _ _ h => h) (by rfl) ?_ hHeld ?_; rotate_left; · (intro w' hSw; go_split_ands; go_simp; try with_reducible rfl)) | (refine held_skip (i := 8) rfl (by as_aux_lemma => kernel_rfl) (fun _ _ _ h => h) (by rfl) hHeld ?_)
            try simp only [Act.put, List.setIfInBounds_toArray, List.set_cons_zero, List.set_cons_succ]
            first | (refine held_take (i := 9) (v := ?_) rfl (by as_aux_lemma => kernel_rfl) (fun _ _ _ h => h) (by rfl) ?_ hHeld ?_; rotate_left; · (intro w' hSw; go_split_ands; go_simp; try with_reducible rfl)) | (refine held_skip (i := 9) rfl (by as_aux_lemma => kernel_rfl) (fun _ _ _ h => h) (by rfl) hHeld ?_)
            try simp only [Act.put, List.setIfInBounds_toArray, List.set_cons_zero, List.set_cons_succ]
            first | (refine held_take (i := 10) (v := ?_) rfl (by as_aux_lemma => kernel_rfl) (fun _ _ _ h => h) (by rfl) ?_ hHeld ?_; rotate_left; · (intro w' hSw; go_split_ands; go_simp; try with_reducible rfl)) | (refine held_skip (i := 10) rfl (by as_aux_lemma => kernel_rfl) (fun _ _ _ h => h) (by rfl) hHeld ?_)
            try simp only [Act.put, List.setIfInBounds_toArray, List.set_cons_zero, List.set_cons_succ]
            first | (refine held_take (i := 11) (v := ?_) rfl (by as_aux_lemma => kernel_rfl) (fun _ _ _ h => h) (by rfl) ?_ hHeld ?_; rotate_left; · (intro w' hSw; go_split_ands; go_simp; try with_reducible rfl)) | (refine held_skip (i := 11) rfl (by as_aux_lemma => kernel_rfl) (fun _ _ _ h => h) (by rfl) hHeld ?_)
            try simp only [Act.put, List.setIfInBounds_toArray, List.set_cons_zero, List.set_cons_succ]
            as_aux_lemma =>
            refine held_one (i := 4) rfl (by as_aux_lemma => kernel_rfl) (fun K hK => ?_)
            go_simp
            go_at_call 28
            refine (HEu.out _).mono ?_
            rintro e v262 ⟨rfl, hb263⟩
            have hS261 := held_on Hmk.out hHeld (fun h => Hpr.out _ h) hb263
            clear hb263 hHeld
            go_simp
            refine hK.out _ _ hS261 (fun hHeld264 => ?_)
            clear hK K hS261
            try simp only [Act.put, List.setIfInBounds_toArray, List.set_cons_zero, List.set_cons_succ]
            first | (refine held_take (i := 12) (v := ?_) rfl (by as_aux_lemma => kernel_rfl) (fun _ _ _ h => h) (by rfl) ?_ hHeld264 ?_; rotate_left; · (intro w' hSw; go_split_ands; go_simp; try with_reducible rfl)) | (refine held_skip (i := 12) rfl (by as_aux_lemma => kernel_rfl) (fun _ _ _ h => h) (by rfl) hHeld264 ?_)
            try simp only [Act.put, List.setIfInBounds_toArray, List.set_cons_zero, List.set_cons_succ]
            refine held_done (by as_aux_lemma => kernel_rfl) ?_
            go_wp2
            go_roundw
            case rel => exact ⟨k + 1, by omega, by go_num, by rw [HS4.out], Lib.hid (Hk.out.trans ((Hpr.out _ hHeld264).mono Hk.out.size))⟩
            case measure => simp [intOf]; omega
          · as_aux_lemma =>
            obtain rfl : k = X.length := by omega
            have dlt : decide (X.length < X.length) = false := decide_eq_false (by omega)
            rw [Hc7.out]
            clear hlt hk
            have hB265 : Below w.heap.size w wr := hB219x.out.trans (hb.out.mono hB219x.out.size)
            have hB265x := Lib.hid hB265; clear hB265
            have HG266 := Lib.hid (HG220.out.below hb.out)
            clear HG220
            have HR267 := Lib.hid (HR221.out.below hb.out)
            clear HR221
            have K268 := Lib.hid (K222.out.below hb.out); clear K222
            have K269 := Lib.hid (K223.out.below hb.out); clear K223
            clear hb
            obtain ⟨r, hr, hrl⟩ := HfH.out c4
            obtain ⟨b0, o0, a0, cc0, hb00, hbw0, hcell0, _⟩ := (HG266.out aL L (by simp)).get hr
            rw [Nat.add_zero, hrl] at hcell0
            subst hb00
            clear hr hrl
            have il : 0 < L.length := by omega
            obtain ⟨T, hT⟩ : ∃ T : Int, -2 * (dg : Int) = T := ⟨_, rfl⟩
            have e3 : IntKind.i64.wrap (-2 * (dg : Int)) = T := by rw [show -2 * (dg : Int) = T by omega]; exact wrap_small (by omega) (by omega)
            rw [hT]
            clear hT c3
            have Hl4 := Lib.hid hL4; clear hL4 c4 hG0 hG1 g0 g2 hA0 hA1 hm0 hm1
            have Hmk := Lib.hid (fun (v2 : World) (h : Below wr.heap.size wr v2) => show v2.cell? ⟨b0, o0, none⟩ = some (.slice a0 dg cc0) ∧ Below wr.heap.size wr v2 from ⟨by rw [h.cell hbw0]; exact hcell0, h⟩)
            have Hpr := Lib.hid (fun (v2 : World) (h : v2.cell? ⟨b0, o0, none⟩ = some (.slice a0 dg cc0) ∧ Below wr.heap.size wr v2) => h.2)
            have Hgl := Lib.hid (HG266.out (some ⟨b0, o0, none⟩) L (by simp))
            clear hcell0
            go_upto_region 29 with fail
            go_cut [211] from 21 (fun sv wx => sv = .bool false ∧ Below wr.heap.size wr wx)
            case first => as_aux_lemma =>
              by_cases hP1 : PT.length = 1
              · as_aux_lemma =>
                obtain ⟨s1, s2⟩ := Hc9.out hP1
                have s0 : SY ≠ 0 := by omega
                have s4 : (SY == 0) = false := beq_eq_false_iff_ne.2 s0
                have s3 : IntKind.i64.wrap (Int.tmod (dg : Int) SY) = 0 := by rw [s2]; rfl
                have dP : (PT.length == 1) = true := by simp [hP1]
                have dP2 : ((PT.length : Int) == 1) = true := beq_iff_eq.2 (by omega)
                clear hP1
                clear s1
                refine held_begin (S := fun w' => w'.cell? ⟨b0, o0, none⟩ = some (.slice a0 dg cc0) ∧ Below wr.heap.size wr w') 13 (by kernel_rfl) rfl ?_ (fun hHeld => ?_)
                · exact Hmk.out _ (Below.drew (Below.refl _ _))
                try simp only [Array.replicate]
                first | (refine held_take (i := 0) (v := ?_) rfl (by as_aux_lemma => kernel_rfl) (fun _ _ _ h => h) (by rfl) ?_ hHeld ?_; rotate_left; · (intro w' hSw; go_split_ands; go_simp; try with_reducible rfl)) | (refine held_skip (i := 0) rfl (by as_aux_lemma => kernel_rfl) (fun _ _ _ h => h) (by rfl) hHeld ?_)
                try simp only [Act.put, List.setIfInBounds_toArray, List.set_cons_zero, List.set_cons_succ]
                first | (refine held_take (i := 1) (v := ?_) rfl (by as_aux_lemma => kernel_rfl) (fun _ _ _ h => h) (by rfl) ?_ hHeld ?_; rotate_left; · (intro w' hSw; go_split_ands; go_simp; try with_reducible rfl)) | (refine held_skip (i := 1) rfl (by as_aux_lemma => kernel_rfl) (fun _ _ _ h => h) (by rfl) hHeld ?_)
                try simp only [Act.put, List.setIfInBounds_toArray, List.set_cons_zero, List.set_cons_succ]
                first | (refine held_take (i := 2) (v := ?_) rfl (by as_aux_lemma => kernel_rfl) (fun _ _ _ h => h) (by rfl) ?_ hHeld ?_; rotate_left; · (intro w' hSw; go_split_ands; go_simp; try with_reducible rfl)) | (refine held_skip (i := 2) rfl (by as_aux_lemma => kernel_rfl) (fun _ _ _ h => h) (by rfl) hHeld ?_)
                try simp only [Act.put, List.setIfInBounds_toArray, List.set_cons_zero, List.set_cons_succ]
                first | (refine held_take (i := 3) (v := ?_) rfl (by as_aux_lemma => kernel_rfl) (fun _ _ _ h => h) (by rfl) ?_ hHeld ?_; rotate_left; · (intro w' hSw; go_split_ands; go_simp; try with_reducible rfl)) | (refine held_skip (i := 3) rfl (by as_aux_lemma => kernel_rfl) (fun _ _ _ h => h) (by rfl) hHeld ?_)
                try simp only [Act.put, List.setIfInBounds_toArray, List.set_cons_zero, List.set_cons_succ]
                first | (refine held_take (i := 4) (v := ?_) rfl (by as_aux_lemma => kernel_rfl) (fun _ _ _ h => h) (by rfl) ?_ hHeld ?_; rotate_left; · (intro w' hSw; go_split_ands; go_simp; try with_reducible rfl)) | (refine held_skip (i := 4) rfl (by as_aux_lemma => kernel_rfl) (fun _ _ _ h => h) (by rfl) hHeld ?_)
                try simp only [Act.put, List.setIfInBounds_toArray, List.set_cons_zero, List.set_cons_succ]
                first | (refine held_take (i := 5) (v := ?_) rfl (by as_aux_lemma => kernel_rfl) (fun _ _ _ h => h) (by rfl) ?_ hHeld ?_; rotate_left; · (intro w' hSw; go_split_ands; go_simp; try with_reducible rfl)) | (refine held_skip (i := 5) rfl (by as_aux_lemma => kernel_rfl) (fun _ _ _ h => h) (by rfl) hHeld ?_)
                try simp only [Act.put, List.setIfInBounds_toArray, List.set_cons_zero, List.set_cons_succ]
                first | (refine held_take (i := 6) (v := ?_) rfl (by as_aux_lemma => kernel_rfl) (fun _ _ _ h => h) (by rfl) ?_ hHeld ?_; rotate_left; · (intro w' hSw; go_split_ands; go_simp; try with_reducible rfl)) | (refine held_skip (i := 6) rfl (by as_aux_lemma => kernel_rfl) (fun _ _ _ h => h) (by rfl) hHeld ?_)
                try simp only [Act.put, List.setIfInBounds_toArray, List.set_cons_zero, List.set_cons_succ]
                first | (refine held_take (i := 7) (v := ?_) rfl (by as_aux_lemma => kernel_rfl) (fun _ _ _ h => h) (by rfl) ?_ hHeld ?_; rotate_left; · (intro w' hSw; go_split_ands; go_simp; try with_reducible rfl)) | (refine held_skip (i := 7) rfl (by as_aux_lemma => kernel_rfl) (fun _ _ _ h => h) (by rfl) hHeld ?_)
                try simp only [Act.put, List.setIfInBounds_toArray, List.set_cons_zero, List.set_cons_succ]
                first | (refine held_take (i := 8) (v := ?_) rfl (by as_aux_lemma => kernel_rfl) (fun _ _ _ h => h) (by rfl) ?_ hHeld ?_; rotate_left; · (intro w' hSw; go_split_ands; go_simp; try with_reducible rfl)) | (refine held_skip (i := 8) rfl (by as_aux_lemma => kernel_rfl) (fun _ _ _ h => h) (by rfl) hHeld ?_)
                try simp only [Act.put, List.setIfInBounds_toArray, List.set_cons_zero, List.set_cons_succ]
                refine held_one (i := 9) rfl (by as_aux_lemma => kernel_rfl) (fun K hK => ?_)
                go_simp
                go_at_call 25
                refine (HciS.out (some ⟨b0, o0, none⟩) cL _ (Hgl.out.below (Hpr.out _ hHeld))).mono ?_
                rintro e v271 ⟨rfl, hb272⟩
                have hS270 := held_on Hmk.out hHeld (fun h => Hpr.out _ h) hb272
                clear hb272 hHeld
                go_simp
                refine hK.out _ _ hS270 (fun hHeld273 => ?_)
                clear hK K hS270
                try simp only [Act.put, List.setIfInBounds_toArray, List.set_cons_zero, List.set_cons_succ]
                first | (refine held_take (i := 10) (v := ?_) rfl (by as_aux_lemma => kernel_rfl) (fun _ _ _ h => h) (by rfl) ?_ hHeld273 ?_; rotate_left; · (intro w' hSw; go_split_ands; go_simp; try with_reducible rfl)) | (refine held_skip (i := 10) rfl (by as_aux_lemma => kernel_rfl) (fun _ _ _ h => h) (by rfl) hHeld273 ?_)
                try simp only [Act.put, List.setIfInBounds_toArray, List.set_cons_zero, List.set_cons_succ]
                as_aux_lemma =>
                first | (refine held_take (i := 11) (v := ?_) rfl (by as_aux_lemma => kernel_rfl) (fun _ _ _ h => h) (by rfl) ?_ hHeld273 ?_; rotate_left; · (intro w' hSw; go_split_ands; go_simp; try with_reducible rfl)) | (refine held_skip (i := 11) rfl (by as_aux_lemma => kernel_rfl) (fun _ _ _ h => h) (by rfl) hHeld273 ?_)
                try simp only [Act.put, List.setIfInBounds_toArray, List.set_cons_zero, List.set_cons_succ]
                first | (refine held_take (i := 12) (v := ?_) rfl (by as_aux_lemma => kernel_rfl) (fun _ _ _ h => h) (by rfl) ?_ hHeld273 ?_; rotate_left; · (intro w' hSw; go_split_ands; go_simp; try with_reducible rfl)) | (refine held_skip (i := 12) rfl (by as_aux_lemma => kernel_rfl) (fun _ _ _ h => h) (by rfl) hHeld273 ?_)
                try simp only [Act.put, List.setIfInBounds_toArray, List.set_cons_zero, List.set_cons_succ]
                refine held_done (by as_aux_lemma => kernel_rfl) ?_
                go_wp2_with fail
                go_meet
                exact ⟨rfl, Hpr.out _ hHeld273⟩
              · as_aux_lemma =>
                have dP : (PT.length == 1) = false := beq_eq_false_iff_ne.2 hP1
                have dP2 : ((PT.length : Int) == 1) = false := beq_eq_false_iff_ne.2 (by omega)
                clear hP1
                go_quiet (fail)
                go_wp2_with fail
                go_meet
                exact ⟨rfl, by first | exact Below.refl _ _ | exact below_drewN (Below.refl _ _) _⟩
            case rest => as_aux_lemma =>
            obtain ⟨rfl, hbc⟩ := hcut
            obtain ⟨wd2, hu0⟩ : ∃ u, u = wc := ⟨_, rfl⟩
            subst hu0
            have hBz := hB265x.out.trans (hbc.mono hB265x.out.size)
            have HBz := Lib.hid hBz; clear hBz
            have hS9 := Hmk.out _ hbc
            have Hmk2 := Lib.hid (fun (v2 : World) (h : Below wd2.heap.size wd2 v2) => show v2.cell? ⟨b0, o0, none⟩ = some (.slice a0 dg cc0) ∧ Below wd2.heap.size wd2 v2 from ⟨by rw [h.cell (Nat.lt_of_lt_of_le hbw0 hbc.size)]; exact hS9.1, h⟩)
            clear Hmk Hpr hS9 hbc
            have Hmk := Hmk2; clear Hmk2
            have Hpr := Lib.hid (fun (v2 : World) (h : v2.cell? ⟨b0, o0, none⟩ = some (.slice a0 dg cc0) ∧ Below wd2.heap.size wd2 v2) => h.2)
            have hXP := Hc2.out
            go_upto_region 31 with fail
            refine held_begin (S := fun w' => w'.cell? ⟨b0, o0, none⟩ = some (.slice a0 dg cc0) ∧ Below wd2.heap.size wd2 w') 19 (by kernel_rfl) rfl ?_ (fun hHeld => ?_)
            · exact Hmk.out _ (Below.drew (Below.refl _ _))
            try simp only [Array.replicate]
            first | (refine held_take (i := 0) (v := ?_) rfl (by as_aux_lemma => kernel_rfl) (fun _ _ _ h => h) (by rfl) ?_ hHeld ?_; rotate_left; · (intro w' hSw; go_split_ands; go_simp; try with_reducible rfl)) | (refine held_skip (i := 0) rfl (by as_aux_lemma => kernel_rfl) (fun _ _ _ h => h) (by rfl) hHeld ?_)
            try simp only [Act.put, List.setIfInBounds_toArray, List.set_cons_zero, List.set_cons_succ]
            first | (refine held_take (i := 1) (v := ?_) rfl (by as_aux_lemma => kernel_rfl) (fun _ _ _ h => h) (by rfl) ?_ hHeld ?_; rotate_left; · (intro w' hSw; go_split_ands; go_simp; try with_reducible rfl)) | (refine held_skip (i := 1) rfl (by as_aux_lemma => kernel_rfl) (fun _ _ _ h => h) (by rfl) hHeld ?_)
            try simp only [Act.put, List.setIfInBounds_toArray, List.set_cons_zero, List.set_cons_succ]
            first | (refine held_take (i := 2) (v := ?_) rfl (by as_aux_lemma => kernel_rfl) (fun _ _ _ h => h) (by rfl) ?_ hHeld ?_; rotate_left; · (intro w' hSw; go_split_ands; go_simp; try with_reducible rfl)) | (refine held_skip (i := 2) rfl (by as_aux_lemma => kernel_rfl) (fun _ _ _ h => h) (by rfl) hHeld ?_)
            try simp only [Act.put, List.setIfInBounds_toArray, List.set_cons_zero, List.set_cons_succ]
            first | (refine held_take (i := 3) (v := ?_) rfl (by as_aux_lemma => kernel_rfl) (fun _ _ _ h => h) (by rfl) ?_ hHeld ?_; rotate_left; · (intro w' hSw; go_split_ands; go_simp; try with_reducible rfl)) | (refine held_skip (i := 3) rfl (by as_aux_lemma => kernel_rfl) (fun _ _ _ h => h) (by rfl) hHeld ?_)
            try simp only [Act.put, List.setIfInBounds_toArray, List.set_cons_zero, List.set_cons_succ]
            first | (refine held_take (i := 4) (v := ?_) rfl (by as_aux_lemma => kernel_rfl) (fun _ _ _ h => h) (by rfl) ?_ hHeld ?_; rotate_left; · (intro w' hSw; go_split_ands; go_simp; try with_reducible rfl)) | (refine held_skip (i := 4) rfl (by as_aux_lemma => kernel_rfl) (fun _ _ _ h => h) (by rfl) hHeld ?_)
            try simp only [Act.put, List.setIfInBounds_toArray, List.set_cons_zero, List.set_cons_succ]
            first | (refine held_take (i := 5) (v := ?_) rfl (by as_aux_lemma => kernel_rfl) (fun _ _ _ h => h) (by rfl) ?_ hHeld ?_; rotate_left; · (intro w' hSw; go_split_ands; go_simp; try with_reducible rfl)) | (refine held_skip (i := 5) rfl (by as_aux_lemma => kernel_rfl) (fun _ _ _ h => h) (by rfl) hHeld ?_)
            try simp only [Act.put, List.setIfInBounds_toArray, List.set_cons_zero, List.set_cons_succ]
            first | (refine held_take (i := 6) (v := ?_) rfl (by as_aux_lemma => kernel_rfl) (fun _ _ _ h => h) (by rfl) ?_ hHeld ?_; rotate_left; · (intro w' hSw; go_split_ands; go_simp; try with_reducible rfl)) | (refine held_skip (i := 6) rfl (by as_aux_lemma => kernel_rfl) (fun _ _ _ h => h) (by rfl) hHeld ?_)
            try simp only [Act.put, List.setIfInBounds_toArray, List.set_cons_zero, List.set_cons_succ]
            first | (refine held_take (i := 8) (v := ?_) rfl (by as_aux_lemma => kernel_rfl) (fun _ _ _ h => h) (by rfl) ?_ hHeld ?_; rotate_left; · (intro w' hSw; go_split_ands; go_simp; try with_reducible rfl)) | (refine held_skip (i := 8) rfl (by as_aux_lemma => kernel_rfl) (fun _ _ _ h => h) (by rfl) hHeld ?_)
            try simp only [Act.put, List.setIfInBounds_toArray, List.set_cons_zero, List.set_cons_succ]
            first | (refine held_take (i := 11) (v := ?_) rfl (by as_aux_lemma => kernel_rfl) (fun _ _ _ h => h) (by rfl) ?_ hHeld ?_; rotate_left; · (intro w' hSw; go_split_ands; go_simp; try with_reducible rfl)) | (refine held_skip (i := 11) rfl (by as_aux_lemma => kernel_rfl) (fun _ _ _ h => h) (by rfl) hHeld ?_)
            try simp only [Act.put, List.setIfInBounds_toArray, List.set_cons_zero, List.set_cons_succ]
            first | (refine held_take (i := 12) (v := ?_) rfl (by as_aux_lemma => kernel_rfl) (fun _ _ _ h => h) (by rfl) ?_ hHeld ?_; rotate_left; · (intro w' hSw; go_split_ands; go_simp; try with_reducible rfl)) | (refine held_skip (i := 12) rfl (by as_aux_lemma => kernel_rfl) (fun _ _ _ h => h) (by rfl) hHeld ?_)
            try simp only [Act.put, List.setIfInBounds_toArray, List.set_cons_zero, List.set_cons_succ]
            first | (refine held_take (i := 13) (v := ?_) rfl (by as_aux_lemma => kernel_rfl) (fun _ _ _ h => h) (by rfl) ?_ hHeld ?_; rotate_left; · (intro w' hSw; go_split_ands; go_simp; try with_reducible rfl)) | (refine held_skip (i := 13) rfl (by as_aux_lemma => kernel_rfl) (fun _ _ _ h => h) (by rfl) hHeld ?_)
            try simp only [Act.put, List.setIfInBounds_toArray, List.set_cons_zero, List.set_cons_succ]
            as_aux_lemma =>
            first | (refine held_take (i := 14) (v := ?_) rfl (by as_aux_lemma => kernel_rfl) (fun _ _ _ h => h) (by rfl) ?_ hHeld ?_; rotate_left; · (intro w' hSw; go_split_ands; go_simp; try with_reducible rfl)) | (refine held_skip (i := 14) rfl (by as_aux_lemma => kernel_rfl) (fun _ _ _ h => h) (by rfl) hHeld ?_)
            try simp only [Act.put, List.setIfInBounds_toArray, List.set_cons_zero, List.set_cons_succ]
            refine held_one (i := 7) rfl (by as_aux_lemma => kernel_rfl) (fun K hK => ?_)
            go_simp
            have hS274 := held_on Hmk.out hHeld (fun h => Hpr.out _ h) ((Below.refl _ _).alloc (Nat.le_refl _) (.cells #[.int .i64 (-1), .int .i64 0, .int .i64 (-2)] 3))
            clear hHeld
            go_simp
            refine hK.out _ _ hS274 (fun hHeld275 => ?_)
            clear hK K hS274
            try simp only [Act.put, List.setIfInBounds_toArray, List.set_cons_zero, List.set_cons_succ]
            first | (refine held_take (i := 9) (v := ?_) rfl (by as_aux_lemma => kernel_rfl) (fun _ _ _ h => h) (by rfl) ?_ hHeld275 ?_; rotate_left; · (intro w' hSw; go_split_ands; go_simp; try with_reducible rfl)) | (refine held_skip (i := 9) rfl (by as_aux_lemma => kernel_rfl) (fun _ _ _ h => h) (by rfl) hHeld275 ?_)
            try simp only [Act.put, List.setIfInBounds_toArray, List.set_cons_zero, List.set_cons_succ]
            refine held_one (i := 10) rfl (by as_aux_lemma => kernel_rfl) (fun K hK => ?_)
            go_simp
            have hS276 := hHeld275
            clear hHeld275
            go_simp
            refine hK.out _ _ hS276 (fun hHeld277 => ?_)
            clear hK K hS276
            try simp only [Act.put, List.setIfInBounds_toArray, List.set_cons_zero, List.set_cons_succ]
            first | (refine held_take (i := 15) (v := ?_) rfl (by as_aux_lemma => kernel_rfl) (fun _ _ _ h => h) (by rfl) ?_ hHeld277 ?_; rotate_left; · (intro w' hSw; go_split_ands; go_simp; try with_reducible rfl)) | (refine held_skip (i := 15) rfl (by as_aux_lemma => kernel_rfl) (fun _ _ _ h => h) (by rfl) hHeld277 ?_)
            try simp only [Act.put, List.setIfInBounds_toArray, List.set_cons_zero, List.set_cons_succ]
            first | (refine held_take (i := 16) (v := ?_) rfl (by as_aux_lemma => kernel_rfl) (fun _ _ _ h => h) (by rfl) ?_ hHeld277 ?_; rotate_left; · (intro w' hSw; go_split_ands; go_simp; try with_reducible rfl)) | (refine held_skip (i := 16) rfl (by as_aux_lemma => kernel_rfl) (fun _ _ _ h => h) (by rfl) hHeld277 ?_)
            try simp only [Act.put, List.setIfInBounds_toArray, List.set_cons_zero, List.set_cons_succ]
            first | (refine held_take (i := 17) (v := ?_) rfl (by as_aux_lemma => kernel_rfl) (fun _ _ _ h => h) (by rfl) ?_ hHeld277 ?_; rotate_left; · (intro w' hSw; go_split_ands; go_simp; try with_reducible rfl)) | (refine held_skip (i := 17) rfl (by as_aux_lemma => kernel_rfl) (fun _ _ _ h => h) (by rfl) hHeld277 ?_)
            try simp only [Act.put, List.setIfInBounds_toArray, List.set_cons_zero, List.set_cons_succ]
            first | (refine held_take (i := 18) (v := ?_) rfl (by as_aux_lemma => kernel_rfl) (fun _ _ _ h => h) (by rfl) ?_ hHeld277 ?_; rotate_left; · (intro w' hSw; go_split_ands; go_simp; try with_reducible rfl)) | (refine held_skip (i := 18) rfl (by as_aux_lemma => kernel_rfl) (fun _ _ _ h => h) (by rfl) hHeld277 ?_)
            try simp only [Act.put, List.setIfInBounds_toArray, List.set_cons_zero, List.set_cons_succ]
            refine held_done (by as_aux_lemma => kernel_rfl) ?_
            go_wp2
            go_ret
            exact ⟨by first | (simp; done) | (simp; decide) | (simp; rfl), HBz.out.trans ((Hpr.out _ hHeld277).mono HBz.out.size)⟩

set_option maxRecDepth 100000 in
theorem contract (H : Type) (enc : TypeId × Value → H) (W : World) (base : Nat) (args : Array Value) (ds gs : List (DataW H)) (before : List MemPlace)
    (hval : ∀ (j : Nat) t v, Tryz.f3.params[j]? = some t → args[j]? = some v → Value.okWide Tryz.prog W .any base t v)
    (hW : DataW.Whole enc Tryz.prog Tryz.f3.params.toList Rows.fnCoversSpec.vars false W args.toList ds gs before) :
    Calls Tryz.prog 3 args W fun e W' => ∃ v, e = .returned v ∧ Rows.fnCoversSpec.post enc Tryz.prog Tryz.f3 false true false false W args v W' := by
  have hW' := hW
  obtain ⟨p, q, hA0, hV, rfl, hfz, hnd⟩ := hW
  have hA : DataW.TrodAll enc Tryz.prog W 0 (fun _ => true) true Tryz.f3.params.toList args.toList ds p := hA0
  rw [Tryz.params3] at hA hval
  obtain ⟨v0, vs0, d0, ds0, p0, q0, hargs, rfl, rfl, h0, r0⟩ := trodAll_cons hA
  obtain ⟨rfl, rfl, rfl⟩ := trodAll_nil r0
  obtain rfl : args = #[v0] := by cases args; simp_all
  obtain ⟨rfl, rfl⟩ := trodVars_none hV
  have k0 := h0
  obtain ⟨acode, ccode, lcode, rfl, wcode⟩ := Read.bytes_of (hval 0 22 v0 rfl rfl) h0
  clear hA0
  simp only [List.append_nil] at hW'
  refine (law acode ccode lcode W wcode).mono fun e W' ⟨he, hg⟩ => ?_
  subst he
  exact ⟨_, rfl, post_of_below (pv := []) hW' (fun _ _ _ => trodAll_cons_mk (shut_bool Tryz.underlying4 _) trodAll_mk0)
    (fun sp hs => trodAll_cons_mk (trod_keeps (t := 22) (by kernel_rfl) (by kernel_rfl) (by kernel_rfl) k0 hg (fun x hx => hW'.lt x (by simp_all)) (fun x hx => hs x (by simp_all))) (trodAll_mk0))
    (fun _ _ => rfl) (by simp) hg (ok_one (by kernel_rfl) rfl (okWide_bool_mk Tryz.underlying4 _))⟩

theorem reads (os : Os) {H : Type} (enc : TypeId × Value → H) : ∃ places, DataW.whole enc Tryz.prog ((World.holding Tryz.prog os ⟨#[], #[], []⟩).forCall (fun _ _ => 0) ⟨#[], #[.slice none 0 0], []⟩).memory Tryz.f3.params.toList Rows.fnCoversSpec.vars false (#[.slice none 0 0] : Array Value).toList 8 = some ([.nil], [], places) :=
  ⟨[], by kernel_rfl⟩

set_option maxRecDepth 100000 in
theorem lifted (os : Os) (started : os.Started) (H : Type) (enc : TypeId × Value → H) (F : Stop.Interp) :
    ReturnsInHanded {} Tryz.checked os 3 .any ((OpenSpec.ofChange Rows.fnCoversSpec).preRow enc Tryz.prog Tryz.f3 Rows.fnCoversRow.domain false Rows.fnCoversRow.laid) (((OpenSpec.ofChange Rows.fnCoversSpec).at F).post enc Tryz.prog Tryz.f3 false true false false) := by
  obtain ⟨places, hx⟩ := reads os enc
  refine returnsInHanded_of_row (C := Tryz.checked) (s := OpenSpec.ofChange Rows.fnCoversSpec) Low.own started (by kernel_rfl) Tryz.func3
    (witness_row_at (enc := enc) (C := Tryz.checked) false (World.holding Tryz.prog os ⟨#[], #[], []⟩) #[.slice none 0 0] rfl (by kernel_rfl) (by kernel_rfl) (by kernel_rfl)
      (OpenSpec.preRow_of_cond 8 hx (by kernel_rfl) (fun k hk => by cases hk) (by kernel_rfl) (laidMet_nil _ _))) ?_
  intro W base args ds gs before hval hW _ _ _ hL hShaped _
  exact contract H enc W base args ds gs before hval hW 

theorem said : Rows.FnCoversSaid :=
  OpenClaim.holds_of_cond 3 Tryz.f3 rfl rfl rfl rfl rfl rfl rfl ⟨rfl, rfl, rfl, rfl, rfl⟩ rfl rfl rfl rfl rfl (by kernel_rfl) Tryz.func3 (by kernel_rfl)
    (of_decide_eq_true (by kernel_rfl)) (by unfold Func.isWrapper; first | (rw [if_pos (by decide +kernel)]; kernel_rfl) | (rw [if_neg (by decide +kernel)]; exact ⟨rfl, rfl⟩))
    (fun os started H enc _ F => by rw [OpenClaim.pre_eq_preRow]; exact lifted os started H enc F)
end Go.Proofs.YtamgimdjnmcpaaaGreat.fnCovers
