/-
  For every draw: gluings are parsed from their text, and Euler number, borders and sides agree.
-/
import Derived.Test.YtpgdmbolckogcaaDoorCards
import Derived.Test.YtpgdmbolckogcaaDoorTie
import Derived.Test.YtpgdmbolckogcaaDoorMrgG1
import Derived.Test.YtpgdmbolckogcaaDoorMrgG2
import Derived.Test.YtpgdmbolckogcaaDoorMrgG3
import Derived.Test.YtpgdmbolckogcaaDoorMrgG4
import Derived.Deep.DeepWitnessRowRef
import Derived.Lay
import Derived.OpenShut
import Derived.Deep.DeepHandedRow
import Derived.LaidMore
namespace Go.Proofs.YtpgdmbolckogcaaDoor.fnGluings
open Go.ChangeShapes Go.WideShapes Go.ChangeAt Go.RowKit Go.Sort
open Go.ChangeMaps (open_string)

def Done (w : World) (e : Ending) (w' : World) : Prop := e = .returned (.bool true) ∧ Below w.heap.size w w'

set_option maxRecDepth 100000 in
set_option maxHeartbeats 8000000 in
theorem law (a : Option Addr) (c : Nat) (l : List Int) (w : World) (hh : RowAt w a (byteCells l) ∧ l.length ≤ maxLen ∧ ∀ x ∈ l, 0 ≤ x ∧ x ≤ 255) (hsh : w.ShapedOpen Tryd.prog) :
    Calls Tryd.prog 5 #[.slice a l.length c] w (Done w) := by
  obtain ⟨ha, hl, hb⟩ := hh
  unfold maxLen at hl
  have Hb := Lib.hid hb; have Ha := Lib.hid ha; have Hsh := Lib.hid hsh
  clear hb ha hsh
  by_cases hbig : 1048576 < l.length
  · have hd : decide (1048576 < l.length) = true := by simpa using hbig
    go_enter Tryd.func5, Tryd.ntmps5
    go_wp2_with fail
    refine (big a l.length c w (by omega)).mono ?_
    rintro e w' ⟨rfl, rfl⟩
    go_wp2
    go_ret
    exact ⟨rfl, Below.refl _ _⟩
  · have hd : decide (1048576 < l.length) = false := by simpa using hbig
    have hsz : l.length ≤ 1048576 := by omega
    have hB0 := Below.refl w.heap.size w
    go_enter Tryd.func5, Tryd.ntmps5
    go_wp2_with fail
    refine (big a l.length c w (by omega)).mono ?_
    rintro e w' ⟨rfl, rfl⟩
    go_wp2_with fail
    refine (drawIsGluing a c l w (Ha.out.below hB0) Hb.out hsz).mono ?_
    rintro e w2 ⟨ag, cg, L, rfl, hG, hL1, hL2, hb1⟩
    have hB2 : Below w.heap.size w w2 := hB0.trans (hb1.mono hB0.size)
    have HG0 := Lib.hid hG.grid
    clear hb1 hG
    have htot : tot L ≤ 1048576 := by have := sumLen_bound hL2; unfold tot; omega
    have hsaid : (Glue.said L).size ≤ 1000 := by have := sumLen_bound hL2; have := glue_said_len L; omega
    clear hL1 hL2
    go_wp2_with fail
    refine (drawParseGluing a c l w2 (Ha.out.below hB2) Hb.out hsz).mono ?_
    rintro e w3 ⟨t, rfl, ht, hb3⟩
    have hB4 : Below w.heap.size w w3 := hB2.trans (hb3.mono hB2.size)
    have HG5 := Lib.hid (HG0.out.below hb3)
    clear HG0
    clear hb3
    have ciIsGluing := fun (W : World) (k : GridAt W ag L) => impl_IsGluing ag cg L W k htot
    have ciEdgeLetters := fun (W : World) (k : GridAt W ag L) => impl_EdgeLetters ag cg L W k htot
    have ciFreeLetters := fun (W : World) (k : GridAt W ag L) => impl_FreeLetters ag cg L W k htot
    have ciCountVertices := fun (W : World) (k : GridAt W ag L) => impl_CountVertices ag cg L W k htot
    have ciEulerOf := fun (W : World) (k : GridAt W ag L) => impl_EulerOf ag cg L W k htot
    have ciPartsOf := fun (W : World) (k : GridAt W ag L) => impl_PartsOf ag cg L W k htot
    have ciIsTwoSided := fun (W : World) (k : GridAt W ag L) => impl_IsTwoSided ag cg L W k htot
    have ciCountBorders := fun (W : World) (k : GridAt W ag L) => impl_CountBorders ag cg L W k htot
    have ciGluingText := fun (W : World) (k : GridAt W ag L) => impl_GluingText ag cg L W k htot
    have csIsGluing := fun (W : World) (k : GridAt W ag L) => spec_IsGluing ag cg L W k htot
    have csEdgeLetters := fun (W : World) (k : GridAt W ag L) => spec_EdgeLetters ag cg L W k htot
    have csFreeLetters := fun (W : World) (k : GridAt W ag L) => spec_FreeLetters ag cg L W k htot
    have csCountVertices := fun (W : World) (k : GridAt W ag L) => spec_CountVertices ag cg L W k htot
    have csEulerOf := fun (W : World) (k : GridAt W ag L) => spec_EulerOf ag cg L W k htot
    have csPartsOf := fun (W : World) (k : GridAt W ag L) => spec_PartsOf ag cg L W k htot
    have csIsTwoSided := fun (W : World) (k : GridAt W ag L) => spec_IsTwoSided ag cg L W k htot
    have csCountBorders := fun (W : World) (k : GridAt W ag L) => spec_CountBorders ag cg L W k htot
    have csGluingText := fun (W : World) (k : GridAt W ag L) => spec_GluingText ag cg L W k htot
    have ciParse := fun (W : World) (k : W.ShapedOpen Tryd.prog) => impl_ParseGluing t W k (by omega)
    have csParse := fun (W : World) => spec_ParseGluing t W (by omega)
    have ciBack := fun (W : World) (k : W.ShapedOpen Tryd.prog) => impl_ParseGluing (Glue.said L) W k (by omega)
    have tX := Glue.parsedG_tot t
    have fK : decide (Glue.ParseOk (Glue.said L)) = decide (Glue.IsG L) := decide_eq_decide.2 ⟨fun h => Classical.byContradiction fun hn => Glue.parsed_not hn h, fun h => (Glue.parsed_said h).1⟩
    rw [fK] at ciBack
    have fZ : decide (Glue.IsG L) = true → Glue.parsedG (Glue.said L) = L := fun h => (Glue.parsed_said (of_decide_eq_true h)).2
    have fN : decide (Glue.IsG L) = false → Glue.numEuler L = -100 ∧ Glue.numParts L = -1 ∧ Glue.numBorders L = -1 := fun h => ⟨if_neg (of_decide_eq_false h), if_neg (of_decide_eq_false h), if_neg (of_decide_eq_false h)⟩
    have fB : decide (Glue.IsG L) = true → (Glue.numBorders L = 0 ↔ (Glue.freeLetters L).length = 0) := fun h => by have hk := of_decide_eq_true h; rw [show Glue.numBorders L = (Glue.borders L : Int) from if_pos hk, show Glue.freeLetters L = Glue.letters L 1 1 from if_pos hk]; have := Glue.borders_zero (L := L); have h2 : (Glue.letters L 1 1).length = (Glue.lettersN L 1 1).length := (by rw [Glue.letters_ofN]; simp [intsOf]); omega
    have fE : decide (Glue.IsG L) = true → Glue.numEuler L ≤ 2 * Glue.numParts L - Glue.numBorders L := fun h => Glue.numEuler_le (of_decide_eq_true h)
    have fT : Glue.twoB L = true → Int.tmod (Glue.numEuler L + Glue.numBorders L) 2 = 0 := fun h => Glue.tmod_even (Glue.numEuler_even h)
    have bE : -1000 ≤ Glue.numEuler L ∧ Glue.numEuler L ≤ 1048600 := by unfold Glue.numEuler; have := Glue.vertices_le L; have := Glue.lettersN_len L 1 2; unfold tot at htot; split <;> omega
    have bP : -1 ≤ Glue.numParts L ∧ Glue.numParts L ≤ 1048600 := by unfold Glue.numParts; have := Glue.parts_le L; unfold tot at htot; split <;> omega
    have bB : -1 ≤ Glue.numBorders L ∧ Glue.numBorders L ≤ 1000 := by unfold Glue.numBorders; have h1 := Cls.tally_le (Glue.circ L) (List.range (Glue.lettersN L 1 1).length); have h2 := Glue.lettersN_len L 1 1; rw [List.length_range] at h1; have h3 : Glue.borders L ≤ 9 := Nat.le_trans h1 h2; split <;> omega
    have lE := Glue.edgeLetters_len L; have lF := Glue.freeLetters_len L
    generalize Glue.parsedG (Glue.said L) = Z at *
    generalize Glue.parsedG t = X at *
    generalize decide (Glue.ParseOk t) = Bt at *
    generalize decide (Glue.IsG L) = Bg at *
    generalize Glue.edgeLetters L = EL at *
    generalize Glue.freeLetters L = FL at *
    generalize Glue.numVertices L = nV at *
    generalize Glue.numEuler L = nE at *
    generalize Glue.numParts L = nP at *
    generalize Glue.numBorders L = nB at *
    generalize Glue.twoB L = T2 at *
    generalize Glue.said L = Tx at *
    have hw1 : IntKind.i64.wrap (2 * nP) = 2 * nP := wrap_small (by omega) (by omega)
    have hw2 : IntKind.i64.wrap (2 * nP - nB) = 2 * nP - nB := wrap_small (by omega) (by omega)
    have hw3 : IntKind.i64.wrap (nE + nB) = nE + nB := wrap_small (by omega) (by omega)
    have HciIsGluing := Lib.hid ciIsGluing; have HciEdgeLetters := Lib.hid ciEdgeLetters; have HciFreeLetters := Lib.hid ciFreeLetters; have HciCountVertices := Lib.hid ciCountVertices; have HciEulerOf := Lib.hid ciEulerOf; have HciPartsOf := Lib.hid ciPartsOf; have HciIsTwoSided := Lib.hid ciIsTwoSided; have HciCountBorders := Lib.hid ciCountBorders; have HciGluingText := Lib.hid ciGluingText; have HcsIsGluing := Lib.hid csIsGluing; have HcsEdgeLetters := Lib.hid csEdgeLetters; have HcsFreeLetters := Lib.hid csFreeLetters; have HcsCountVertices := Lib.hid csCountVertices; have HcsEulerOf := Lib.hid csEulerOf; have HcsPartsOf := Lib.hid csPartsOf; have HcsIsTwoSided := Lib.hid csIsTwoSided; have HcsCountBorders := Lib.hid csCountBorders; have HcsGluingText := Lib.hid csGluingText; have HciParse := Lib.hid ciParse; have HcsParse := Lib.hid csParse; have HciBack := Lib.hid ciBack; have HfZ := Lib.hid fZ; have HfN := Lib.hid fN; have HfB := Lib.hid fB; have HfE := Lib.hid fE; have HfT := Lib.hid fT
    clear fK ciIsGluing ciEdgeLetters ciFreeLetters ciCountVertices ciEulerOf ciPartsOf ciIsTwoSided ciCountBorders ciGluingText csIsGluing csEdgeLetters csFreeLetters csCountVertices csEulerOf csPartsOf csIsTwoSided csCountBorders csGluingText ciParse csParse ciBack fZ fN fB fE fT
    go_wp2_with fail
    refine (HciParse.out w3 (shaped_below Hsh.out hB4)).mono ?_
    rintro e w4 ⟨a6, c7, rfl, _, _, hf8, hb9⟩
    have hB11 : Below w.heap.size w w4 := hB4.trans (hb9.mono hB4.size)
    have HG12 := Lib.hid (HG5.out.below hb9)
    clear HG5
    have HG10 := Lib.hid hf8.grid
    clear hf8 hb9
    go_wp2_with fail
    refine (HcsParse.out w4).mono ?_
    rintro e w5 ⟨a13, c14, rfl, _, _, hf15, hb16⟩
    have hB18 : Below w.heap.size w w5 := hB11.trans (hb16.mono hB11.size)
    have HG19 := Lib.hid (HG12.out.below hb16)
    clear HG12
    have HG20 := Lib.hid (HG10.out.below hb16)
    clear HG10
    have HG17 := Lib.hid hf15.grid
    clear hf15 hb16
    go_wp2_with fail
    refine (sameLists_eq a6 a13 c7 c14 X w5 HG20.out HG17.out (Nat.le_trans tX (by decide))).mono ?_
    rintro e w6 ⟨rfl, hb21⟩
    have hB22 : Below w.heap.size w w6 := hB18.trans (hb21.mono hB18.size)
    have HG23 := Lib.hid (HG19.out.below hb21)
    clear HG19
    have HG24 := Lib.hid (HG20.out.below hb21)
    clear HG20
    have HG25 := Lib.hid (HG17.out.below hb21)
    clear HG17
    clear hb21
    clear HG24
    clear HG25
    go_wp2_with fail
    refine (HciIsGluing.out w6 HG23.out).mono ?_
    rintro e w7 ⟨rfl, hb26⟩
    have hB27 : Below w.heap.size w w7 := hB22.trans (hb26.mono hB22.size)
    have HG28 := Lib.hid (HG23.out.below hb26)
    clear HG23
    clear hb26
    go_wp2_with fail
    refine (HcsIsGluing.out w7 HG28.out).mono ?_
    rintro e w8 ⟨rfl, hb29⟩
    have hB30 : Below w.heap.size w w8 := hB27.trans (hb29.mono hB27.size)
    have HG31 := Lib.hid (HG28.out.below hb29)
    clear HG28
    clear hb29
    go_wp2_with fail
    refine (HciEdgeLetters.out w8 HG31.out).mono ?_
    rintro e w9 ⟨a32, c33, rfl, _, _, hf34, hb35⟩
    have hB37 : Below w.heap.size w w9 := hB30.trans (hb35.mono hB30.size)
    have HG38 := Lib.hid (HG31.out.below hb35)
    clear HG31
    have HR36 := Lib.hid hf34.row
    clear hf34 hb35
    go_wp2_with fail
    refine (HcsEdgeLetters.out w9 HG38.out).mono ?_
    rintro e w10 ⟨a39, c40, rfl, _, _, hf41, hb42⟩
    have hB44 : Below w.heap.size w w10 := hB37.trans (hb42.mono hB37.size)
    have HG45 := Lib.hid (HG38.out.below hb42)
    clear HG38
    have HR43 := Lib.hid hf41.row
    have HR46 := Lib.hid (HR36.out.below hb42)
    clear hf41 hb42
    go_wp2_with fail
    refine (sameInts_eq a32 a39 c33 c40 EL w10 HR46.out HR43.out (Nat.le_trans lE (by decide))).mono ?_
    rintro e w11 ⟨rfl, hb47⟩
    have hB48 : Below w.heap.size w w11 := hB44.trans (hb47.mono hB44.size)
    have HG49 := Lib.hid (HG45.out.below hb47)
    clear HG45
    clear hb47
    clear HR36 HR46 HR43
    go_wp2_with fail
    refine (HciFreeLetters.out w11 HG49.out).mono ?_
    rintro e w12 ⟨a50, c51, rfl, _, _, hf52, hb53⟩
    have hB55 : Below w.heap.size w w12 := hB48.trans (hb53.mono hB48.size)
    have HG56 := Lib.hid (HG49.out.below hb53)
    clear HG49
    have HR54 := Lib.hid hf52.row
    clear hf52 hb53
    go_wp2_with fail
    refine (HcsFreeLetters.out w12 HG56.out).mono ?_
    rintro e w13 ⟨a57, c58, rfl, _, _, hf59, hb60⟩
    have hB62 : Below w.heap.size w w13 := hB55.trans (hb60.mono hB55.size)
    have HG63 := Lib.hid (HG56.out.below hb60)
    clear HG56
    have HR61 := Lib.hid hf59.row
    have HR64 := Lib.hid (HR54.out.below hb60)
    clear hf59 hb60
    go_wp2_with fail
    refine (sameInts_eq a50 a57 c51 c58 FL w13 HR64.out HR61.out (Nat.le_trans lF (by decide))).mono ?_
    rintro e w14 ⟨rfl, hb65⟩
    have hB66 : Below w.heap.size w w14 := hB62.trans (hb65.mono hB62.size)
    have HG67 := Lib.hid (HG63.out.below hb65)
    clear HG63
    clear hb65
    clear HR54 HR64 HR61
    go_wp2_with fail
    refine (HciCountVertices.out w14 HG67.out).mono ?_
    rintro e w15 ⟨rfl, hb68⟩
    have hB69 : Below w.heap.size w w15 := hB66.trans (hb68.mono hB66.size)
    have HG70 := Lib.hid (HG67.out.below hb68)
    clear HG67
    clear hb68
    go_wp2_with fail
    refine (HcsCountVertices.out w15 HG70.out).mono ?_
    rintro e w16 ⟨rfl, hb71⟩
    have hB72 : Below w.heap.size w w16 := hB69.trans (hb71.mono hB69.size)
    have HG73 := Lib.hid (HG70.out.below hb71)
    clear HG70
    clear hb71
    go_wp2_with fail
    refine (HciEulerOf.out w16 HG73.out).mono ?_
    rintro e w17 ⟨rfl, hb74⟩
    have hB75 : Below w.heap.size w w17 := hB72.trans (hb74.mono hB72.size)
    have HG76 := Lib.hid (HG73.out.below hb74)
    clear HG73
    clear hb74
    go_wp2_with fail
    refine (HcsEulerOf.out w17 HG76.out).mono ?_
    rintro e w18 ⟨rfl, hb77⟩
    have hB78 : Below w.heap.size w w18 := hB75.trans (hb77.mono hB75.size)
    have HG79 := Lib.hid (HG76.out.below hb77)
    clear HG76
    clear hb77
    go_wp2_with fail
    refine (HciPartsOf.out w18 HG79.out).mono ?_
    rintro e w19 ⟨rfl, hb80⟩
    have hB81 : Below w.heap.size w w19 := hB78.trans (hb80.mono hB78.size)
    have HG82 := Lib.hid (HG79.out.below hb80)
    clear HG79
    clear hb80
    go_wp2_with fail
    refine (HcsPartsOf.out w19 HG82.out).mono ?_
    rintro e w20 ⟨rfl, hb83⟩
    have hB84 : Below w.heap.size w w20 := hB81.trans (hb83.mono hB81.size)
    have HG85 := Lib.hid (HG82.out.below hb83)
    clear HG82
    clear hb83
    go_wp2_with fail
    refine (HciIsTwoSided.out w20 HG85.out).mono ?_
    rintro e w21 ⟨rfl, hb86⟩
    have hB87 : Below w.heap.size w w21 := hB84.trans (hb86.mono hB84.size)
    have HG88 := Lib.hid (HG85.out.below hb86)
    clear HG85
    clear hb86
    go_wp2_with fail
    refine (HcsIsTwoSided.out w21 HG88.out).mono ?_
    rintro e w22 ⟨rfl, hb89⟩
    have hB90 : Below w.heap.size w w22 := hB87.trans (hb89.mono hB87.size)
    have HG91 := Lib.hid (HG88.out.below hb89)
    clear HG88
    clear hb89
    go_wp2_with fail
    refine (HciCountBorders.out w22 HG91.out).mono ?_
    rintro e w23 ⟨rfl, hb92⟩
    have hB93 : Below w.heap.size w w23 := hB90.trans (hb92.mono hB90.size)
    have HG94 := Lib.hid (HG91.out.below hb92)
    clear HG91
    clear hb92
    go_wp2_with fail
    refine (HcsCountBorders.out w23 HG94.out).mono ?_
    rintro e w24 ⟨rfl, hb95⟩
    have hB96 : Below w.heap.size w w24 := hB93.trans (hb95.mono hB93.size)
    have HG97 := Lib.hid (HG94.out.below hb95)
    clear HG94
    clear hb95
    go_wp2_with fail
    refine (HciGluingText.out w24 HG97.out).mono ?_
    rintro e w25 ⟨rfl, hb98⟩
    have hB99 : Below w.heap.size w w25 := hB96.trans (hb98.mono hB96.size)
    have HG100 := Lib.hid (HG97.out.below hb98)
    clear HG97
    clear hb98
    go_wp2_with fail
    refine (HciBack.out w25 (shaped_below Hsh.out hB99)).mono ?_
    rintro e w26 ⟨a101, c102, rfl, _, _, hf103, hb104⟩
    have hB106 : Below w.heap.size w w26 := hB99.trans (hb104.mono hB99.size)
    have HG107 := Lib.hid (HG100.out.below hb104)
    clear HG100
    have HG105 := Lib.hid hf103.grid
    clear hf103 hb104
    go_wp2_with fail
    refine (HcsGluingText.out w26 HG107.out).mono ?_
    rintro e w27 ⟨rfl, hb108⟩
    have hB109 : Below w.heap.size w w27 := hB106.trans (hb108.mono hB106.size)
    have HG110 := Lib.hid (HG107.out.below hb108)
    clear HG107
    have HG111 := Lib.hid (HG105.out.below hb108)
    clear HG105
    clear hb108
    go_wp2_with fail
    refine (HcsIsGluing.out w27 HG110.out).mono ?_
    rintro e w28 ⟨rfl, hb112⟩
    have hB113 : Below w.heap.size w w28 := hB109.trans (hb112.mono hB109.size)
    have HG114 := Lib.hid (HG110.out.below hb112)
    clear HG110
    have HG115 := Lib.hid (HG111.out.below hb112)
    clear HG111
    clear hb112
    cases Bg with
    | false =>
      obtain ⟨hk1, hk2, hk3⟩ := HfN.out (by first | exact rfl | trivial)
      subst hk1
      subst hk2
      subst hk3
      clear bE bP bB hw1 hw2 hw3
      go_wp2_with fail
      refine (HciEulerOf.out w28 HG114.out).mono ?_
      rintro e w29 ⟨rfl, hb116⟩
      have hB117 : Below w.heap.size w w29 := hB113.trans (hb116.mono hB113.size)
      have HG118 := Lib.hid (HG114.out.below hb116)
      clear HG114
      have HG119 := Lib.hid (HG115.out.below hb116)
      clear HG115
      clear hb116
      go_wp2_with fail
      refine (HciPartsOf.out w29 HG118.out).mono ?_
      rintro e w30 ⟨rfl, hb120⟩
      have hB121 : Below w.heap.size w w30 := hB117.trans (hb120.mono hB117.size)
      have HG122 := Lib.hid (HG118.out.below hb120)
      clear HG118
      have HG123 := Lib.hid (HG119.out.below hb120)
      clear HG119
      clear hb120
      go_wp2_with fail
      refine (HciCountBorders.out w30 HG122.out).mono ?_
      rintro e w31 ⟨rfl, hb124⟩
      have hB125 : Below w.heap.size w w31 := hB121.trans (hb124.mono hB121.size)
      have HG126 := Lib.hid (HG122.out.below hb124)
      clear HG122
      have HG127 := Lib.hid (HG123.out.below hb124)
      clear HG123
      clear hb124
      go_wp2
      go_ret
      exact ⟨rfl, hB125⟩
    | true =>
      have hkz := HfZ.out (by first | exact rfl | trivial)
      subst hkz
      go_wp2_with fail
      refine (sameLists_eq a101 ag c102 cg Z w28 HG115.out HG114.out htot).mono ?_
      rintro e w32 ⟨rfl, hb128⟩
      have hB129 : Below w.heap.size w w32 := hB113.trans (hb128.mono hB113.size)
      have HG130 := Lib.hid (HG114.out.below hb128)
      clear HG114
      have HG131 := Lib.hid (HG115.out.below hb128)
      clear HG115
      clear hb128
      have hk1 := HfB.out (by first | exact rfl | trivial); have hk2 := HfE.out (by first | exact rfl | trivial)
      have hgt : decide (nE > 2 * nP - nB) = false := decide_eq_false (by omega)
      go_wp2_with fail
      refine (HciEulerOf.out w32 HG130.out).mono ?_
      rintro e w33 ⟨rfl, hb132⟩
      have hB133 : Below w.heap.size w w33 := hB129.trans (hb132.mono hB129.size)
      have HG134 := Lib.hid (HG130.out.below hb132)
      clear HG130
      have HG135 := Lib.hid (HG131.out.below hb132)
      clear HG131
      clear hb132
      go_wp2_with fail
      refine (HciPartsOf.out w33 HG134.out).mono ?_
      rintro e w34 ⟨rfl, hb136⟩
      have hB137 : Below w.heap.size w w34 := hB133.trans (hb136.mono hB133.size)
      have HG138 := Lib.hid (HG134.out.below hb136)
      clear HG134
      have HG139 := Lib.hid (HG135.out.below hb136)
      clear HG135
      clear hb136
      go_wp2_with fail
      refine (HciCountBorders.out w34 HG138.out).mono ?_
      rintro e w35 ⟨rfl, hb140⟩
      have hB141 : Below w.heap.size w w35 := hB137.trans (hb140.mono hB137.size)
      have HG142 := Lib.hid (HG138.out.below hb140)
      clear HG138
      have HG143 := Lib.hid (HG139.out.below hb140)
      clear HG139
      clear hb140
      go_wp2_with fail
      refine (HciCountBorders.out w35 HG142.out).mono ?_
      rintro e w36 ⟨rfl, hb144⟩
      have hB145 : Below w.heap.size w w36 := hB141.trans (hb144.mono hB141.size)
      have HG146 := Lib.hid (HG142.out.below hb144)
      clear HG142
      have HG147 := Lib.hid (HG143.out.below hb144)
      clear HG143
      clear hb144
      have hbz : (nB == 0) = ((FL.length : Int) == 0) := by rw [Bool.eq_iff_iff, beq_iff_eq, beq_iff_eq]; omega
      go_wp2_with fail
      refine (HciFreeLetters.out w36 HG146.out).mono ?_
      rintro e w37 ⟨a148, c149, rfl, _, _, hf150, hb151⟩
      have hB153 : Below w.heap.size w w37 := hB145.trans (hb151.mono hB145.size)
      have HG154 := Lib.hid (HG146.out.below hb151)
      clear HG146
      have HG155 := Lib.hid (HG147.out.below hb151)
      clear HG147
      have HR152 := Lib.hid hf150.row
      clear hf150 hb151
      go_wp2_with fail
      refine (HciIsTwoSided.out w37 HG154.out).mono ?_
      rintro e w38 ⟨rfl, hb156⟩
      have hB157 : Below w.heap.size w w38 := hB153.trans (hb156.mono hB153.size)
      have HG158 := Lib.hid (HG154.out.below hb156)
      clear HG154
      have HG159 := Lib.hid (HG155.out.below hb156)
      clear HG155
      clear hb156
      cases T2 with
      | false =>
        go_wp2
        go_ret
        exact ⟨rfl, hB157⟩
      | true =>
        have hk3 := HfT.out (by first | exact rfl | trivial)
        go_wp2_with fail
        refine (HciEulerOf.out w38 HG158.out).mono ?_
        rintro e w39 ⟨rfl, hb160⟩
        have hB161 : Below w.heap.size w w39 := hB157.trans (hb160.mono hB157.size)
        have HG162 := Lib.hid (HG158.out.below hb160)
        clear HG158
        have HG163 := Lib.hid (HG159.out.below hb160)
        clear HG159
        clear hb160
        go_wp2_with fail
        refine (HciCountBorders.out w39 HG162.out).mono ?_
        rintro e w40 ⟨rfl, hb164⟩
        have hB165 : Below w.heap.size w w40 := hB161.trans (hb164.mono hB161.size)
        have HG166 := Lib.hid (HG162.out.below hb164)
        clear HG162
        have HG167 := Lib.hid (HG163.out.below hb164)
        clear HG163
        clear hb164
        go_wp2
        go_ret
        exact ⟨rfl, hB165⟩

set_option maxRecDepth 100000 in
theorem contract (H : Type) (enc : TypeId × Value → H) (W : World) (base : Nat) (args : Array Value) (ds gs : List (DataW H)) (before : List MemPlace)
    (hval : ∀ (j : Nat) t v, Tryd.f5.params[j]? = some t → args[j]? = some v → Value.okWide Tryd.prog W .any base t v)
    (hW : DataW.Whole enc Tryd.prog Tryd.f5.params.toList Rows.fnGluingsSpec.vars false W args.toList ds gs before) (hL : laidMetH Tryd.prog Rows.fnGluingsRow.laid W) (hShaped : W.ShapedOpen Tryd.prog) :
    Calls Tryd.prog 5 args W fun e W' => ∃ v, e = .returned v ∧ Rows.fnGluingsSpec.post enc Tryd.prog Tryd.f5 false true false false W args v W' := by
  have hW' := hW
  obtain ⟨p, q, hA0, hV, rfl, hfz, hnd⟩ := hW
  have hA : DataW.TrodAll enc Tryd.prog W 0 (fun _ => true) true Tryd.f5.params.toList args.toList ds p := hA0
  rw [Tryd.params5] at hA hval
  obtain ⟨v0, vs0, d0, ds0, p0, q0, hargs, rfl, rfl, h0, r0⟩ := trodAll_cons hA
  obtain ⟨rfl, rfl, rfl⟩ := trodAll_nil r0
  obtain rfl : args = #[v0] := by cases args; simp_all
  obtain ⟨rfl, rfl⟩ := trodVars_none hV
  have k0 := h0
  obtain ⟨acode, ccode, lcode, rfl, wcode⟩ := Read.bytes_of (hval 0 31 v0 rfl rfl) h0
  clear hA0
  simp only [List.append_nil] at hW'
  refine (law acode ccode lcode W wcode (hShaped)).mono fun e W' ⟨he, hg⟩ => ?_
  subst he
  exact ⟨_, rfl, post_of_below (pv := []) hW' (fun _ _ _ => trodAll_cons_mk (shut_bool Tryd.underlying4 _) trodAll_mk0)
    (fun sp hs => trodAll_cons_mk (trod_keeps (t := 31) (by kernel_rfl) (by kernel_rfl) (by kernel_rfl) k0 hg (fun x hx => hW'.lt x (by simp_all)) (fun x hx => hs x (by simp_all))) (trodAll_mk0))
    (fun _ _ => rfl) (by simp) hg (ok_one (by kernel_rfl) rfl (okWide_bool_mk Tryd.underlying4 _))⟩

theorem laid_met (os : Os) : laidMetH Tryd.prog Rows.fnGluingsRow.laid ((World.laidAll Tryd.prog os Rows.fnGluingsRow.laid).forCall (fun _ _ => 0) ⟨#[], #[.slice none 0 0], []⟩).memory :=
  (by rw [MakeChecks.laidMetH_plain _ _ _ (by kernel_rfl)]; exact laidMet_laidAll _ (by kernel_rfl) (by kernel_rfl))
theorem reads (os : Os) {H : Type} (enc : TypeId × Value → H) : ∃ places, DataW.whole enc Tryd.prog ((World.laidAll Tryd.prog os Rows.fnGluingsRow.laid).forCall (fun _ _ => 0) ⟨#[], #[.slice none 0 0], []⟩).memory Tryd.f5.params.toList Rows.fnGluingsSpec.vars false (#[.slice none 0 0] : Array Value).toList 8 = some ([.nil], [], places) :=
  ⟨[], by kernel_rfl⟩

set_option maxRecDepth 100000 in
theorem lifted (os : Os) (started : os.Started) (H : Type) (enc : TypeId × Value → H) (F : Stop.Interp) :
    ReturnsInHanded {} Tryd.checked os 5 .any ((OpenSpec.ofChange Rows.fnGluingsSpec).preRow enc Tryd.prog Tryd.f5 Rows.fnGluingsRow.domain false Rows.fnGluingsRow.laid) (((OpenSpec.ofChange Rows.fnGluingsSpec).at F).post enc Tryd.prog Tryd.f5 false true false false) := by
  obtain ⟨places, hx⟩ := reads os enc
  refine returnsInHanded_of_row (C := Tryd.checked) (s := OpenSpec.ofChange Rows.fnGluingsSpec) Low.own started (by kernel_rfl) Tryd.func5
    (witness_row_atRef (enc := enc) (C := Tryd.checked) false (World.laidAll Tryd.prog os Rows.fnGluingsRow.laid) #[.slice none 0 0] (World.laidAll_os _ _ _) (by kernel_rfl) (by kernel_rfl) (by kernel_rfl)
      (OpenSpec.preRow_of_cond 8 hx (by kernel_rfl) (fun k hk => by cases hk) (by kernel_rfl) (laid_met os))) ?_
  intro W base args ds gs before hval hW _ _ _ hL hShaped _
  exact contract H enc W base args ds gs before hval hW hL hShaped

theorem said : Rows.FnGluingsSaid :=
  OpenClaim.holds_of_cond 5 Tryd.f5 rfl rfl rfl rfl rfl rfl rfl ⟨rfl, rfl, rfl, rfl, rfl⟩ rfl rfl rfl rfl rfl (by kernel_rfl) Tryd.func5 (by kernel_rfl)
    (of_decide_eq_true (by kernel_rfl)) (by unfold Func.isWrapper; first | (rw [if_pos (by decide +kernel)]; kernel_rfl) | (rw [if_neg (by decide +kernel)]; exact ⟨rfl, rfl⟩))
    (fun os started H enc _ F => by rw [OpenClaim.pre_eq_preRow]; exact lifted os started H enc F)

theorem looks (f : FuncId) (fn : Func) (hf : Tryd.pinned.checked.prog.funcNamed "loop.example/g03105/laws.FnGluings" = some f) (hfn : Tryd.pinned.checked.prog.funcs[f]? = some fn) :
    false = Tryd.pinned.checked.prog.looks [] ∧ ∀ (j : Nat) t, fn.params[j]? = some t → Tryd.pinned.checked.prog.wantsStandIn t = false := by
  obtain rfl : f = 5 := Option.some.inj ((show Tryd.prog.funcNamed "loop.example/g03105/laws.FnGluings" = some 5 by kernel_rfl).symm.trans hf) |>.symm
  obtain rfl : fn = Tryd.f5 := (Option.some.inj (Tryd.func5.symm.trans hfn)).symm
  refine ⟨by kernel_rfl, fun j t ht => ?_⟩
  rw [Tryd.params5] at ht
  have hm : t ∈ [31] := by simpa using Array.mem_of_getElem? ht
  have hall : ([31].all fun u => !Tryd.prog.wantsStandIn u) = true := by kernel_rfl
  exact (show Tryd.prog.wantsStandIn t = false by simpa using List.all_eq_true.1 hall t hm)

theorem card : Rows.FnGluingsCardSaid :=
  Claim7.holds_tied_plain_at .later [] _ _ _ _ said (fun _ h => by cases h) (by kernel_rfl) (fun _ h => by cases h) fnGluings_row_tie rfl ⟨rfl, rfl⟩ (by kernel_rfl) rfl looks (by kernel_rfl)
end Go.Proofs.YtpgdmbolckogcaaDoor.fnGluings
