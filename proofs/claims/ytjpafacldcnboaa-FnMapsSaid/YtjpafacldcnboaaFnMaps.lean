/-
  For every draw: duals and mirrors keep genus and edges, edges can be added, dropped and subdivided.
-/
import Derived.Test.YtjpafacldcnboaaBase
import Derived.Test.YtjpafacldcnboaaLow
import Derived.Test.YtjpafacldcnboaaSlice
import Derived.Test.YtjpafacldcnboaaIntRow
import Derived.Test.YtjpafacldcnboaaInts
import Derived.Test.YtjpafacldcnboaaGrid
import Derived.Test.YtjpafacldcnboaaGridWalk
import Derived.Test.YtjpafacldcnboaaGridRows
import Derived.Test.YtjpafacldcnboaaOwn
import Derived.Test.YtjpafacldcnboaaAppend
import Derived.Test.YtjpafacldcnboaaClass
import Derived.Test.YtjpafacldcnboaaLab
import Derived.Test.YtjpafacldcnboaaTopo
import Derived.Test.YtjpafacldcnboaaMap
import Derived.Test.YtjpafacldcnboaaMapTopo
import Derived.Test.YtjpafacldcnboaaMapTopo2
import Derived.Test.YtjpafacldcnboaaMapTopo3
import Derived.Test.YtjpafacldcnboaaMapTopo4
import Derived.Test.YtjpafacldcnboaaMapA
import Derived.Test.YtjpafacldcnboaaMapB
import Derived.Test.YtjpafacldcnboaaMapC
import Derived.Test.YtjpafacldcnboaaMapD
import Derived.Test.YtjpafacldcnboaaMapE
import Derived.Test.YtjpafacldcnboaaMapF
import Derived.Test.YtjpafacldcnboaaMapG
import Derived.Test.YtjpafacldcnboaaMapH
import Derived.Test.YtjpafacldcnboaaMapI
import Derived.Test.YtjpafacldcnboaaMapJ
import Derived.Test.YtjpafacldcnboaaMapK
import Derived.Test.YtjpafacldcnboaaMapL
import Derived.Test.YtjpafacldcnboaaMapM
import Derived.Test.YtjpafacldcnboaaDraw
import Derived.Test.YtjpafacldcnboaaDrawMap
import Derived.Test.YtjpafacldcnboaaDrawMap2
import Derived.Test.YtjpafacldcnboaaReadBytes
import Derived.Test.YtjpafacldcnboaaSame
import Derived.Test.YtjpafacldcnboaaSameL
import Derived.Deep.DeepWitnessRowRef
import Derived.OpenShut
import Derived.Deep.DeepHandedRow
import Derived.LaidMore
namespace Go.Proofs.Ytjpafacldcnboaa.fnMaps
open Go.ChangeShapes Go.WideShapes Go.ChangeAt Go.RowKit Go.Sort
open Go.ChangeMaps (open_string)

def Done (w : World) (e : Ending) (w' : World) : Prop := e = .returned (.bool true) ∧ Below w.heap.size w w'

set_option maxRecDepth 100000 in
set_option maxHeartbeats 8000000 in
theorem law (a : Option Addr) (c : Nat) (l : List Int) (w : World) (hh : RowAt w a (byteCells l) ∧ l.length ≤ maxLen ∧ ∀ x ∈ l, 0 ≤ x ∧ x ≤ 255) :
    Calls Try.prog 13 #[.slice a l.length c] w (Done w) := by
  obtain ⟨ha, hl, hb⟩ := hh
  unfold maxLen at hl
  have Hb := Lib.hid hb; have Ha := Lib.hid ha
  clear hb ha
  by_cases hbig : 1048576 < l.length
  · have hd : decide (1048576 < l.length) = true := by simpa using hbig
    go_enter Try.func13, Try.ntmps13
    go_wp2_with fail
    refine (big a l.length c w (by omega)).mono ?_
    rintro e w' ⟨rfl, rfl⟩
    go_wp2
    go_ret
    exact ⟨rfl, Below.refl _ _⟩
  · have hd : decide (1048576 < l.length) = false := by simpa using hbig
    have hsz : l.length ≤ 1048576 := by omega
    have hB0 := Below.refl w.heap.size w
    have HR0 := Lib.hid (Rows.nil w)
    go_enter Try.func13, Try.ntmps13
    go_wp2_with fail
    refine (big a l.length c w (by omega)).mono ?_
    rintro e w' ⟨rfl, rfl⟩
    go_wp2_with fail
    refine (drawIsMap a c l w (Ha.out.below hB0) Hb.out hsz).mono ?_
    rintro e w2 ⟨am, cm, lm, rfl, hrm, hlm, hb1⟩
    have hB2 : Below w.heap.size w w2 := hB0.trans (hb1.mono hB0.size)
    have HR3 := Lib.hid (Rows.cons (HR0.out.below hb1) hrm)
    clear HR0
    clear hb1 hrm
    go_wp2_with fail
    refine (drawDropEdge a c l w2 (Ha.out.below hB2) Hb.out hsz).mono ?_
    rintro e w3 ⟨ad, cd, ld, ve, rfl, hrd, hld, hve0, hve1, hb4⟩
    have hB5 : Below w.heap.size w w3 := hB2.trans (hb4.mono hB2.size)
    have HR6 := Lib.hid (Rows.cons (HR3.out.below hb4) hrd)
    clear HR3
    clear hb4 hrd
    have ciDrop := fun (q : Option Addr) (d : Nat) (W : World) (k : RowAt W q (intCells ld)) => impl_DropEdge q d ld ve W k (by omega) (by omega) (by omega)
    have csDrop := fun (q : Option Addr) (d : Nat) (W : World) (k : RowAt W q (intCells ld)) => spec_DropEdge q d ld ve W k (by omega) (by omega) (by omega)
    have lLs := Mp.drop_len ld ve
    have fLs : decide (Mp.DropOk ld ve) = true → ¬ Mp.genusOf ld < Mp.genusOf (Mp.drop ld ve) := fun h => by have hk := of_decide_eq_true h; rw [show Mp.genusOf ld = Mp.genus ld from if_pos hk.1.1, show Mp.genusOf (Mp.drop ld ve) = Mp.genus (Mp.drop ld ve) from if_pos (Mp.drop_isM hk)]; have := Mp.genus_drop hk; omega
    have cGD := fun (q : Option Addr) (d : Nat) (W : World) (k : RowAt W q (intCells ld)) => spec_GenusOf q d ld  W k (by omega)
    have cGL := fun (q : Option Addr) (d : Nat) (W : World) (k : RowAt W q (intCells (Mp.drop ld ve))) => spec_GenusOf q d (Mp.drop ld ve)  W k (by omega)
    generalize Mp.genusOf (Mp.drop ld ve) = GL at *
    generalize Mp.genusOf ld = GD at *
    generalize decide (Mp.DropOk ld ve) = Bo at *
    generalize Mp.drop ld ve = Ls at *
    have HciDrop := Lib.hid ciDrop; have HcsDrop := Lib.hid csDrop; have HcGD := Lib.hid cGD; have HcGL := Lib.hid cGL; have HfLs := Lib.hid fLs; clear ciDrop csDrop cGD cGL fLs
    go_wp2_with fail
    refine (HciDrop.out ad cd w3 (HR6.out.get ad ld (by simp))).mono ?_
    rintro e w4 ⟨a7, c8, rfl, _, _, hf9, hb10⟩
    have hB11 : Below w.heap.size w w4 := hB5.trans (hb10.mono hB5.size)
    have HR12 := Lib.hid (Rows.cons (HR6.out.below hb10) hf9.row)
    clear HR6
    clear hf9 hb10
    go_wp2_with fail
    refine (HcsDrop.out ad cd w4 (HR12.out.get ad ld (by simp))).mono ?_
    rintro e w5 ⟨a13, c14, rfl, _, _, hf15, hb16⟩
    have hB17 : Below w.heap.size w w5 := hB11.trans (hb16.mono hB11.size)
    have HR18 := Lib.hid (Rows.cons (HR12.out.below hb16) hf15.row)
    clear HR12
    clear hf15 hb16
    go_wp2_with fail
    refine (drawAddEdge a c l w5 (Ha.out.below hB17) Hb.out hsz).mono ?_
    rintro e w6 ⟨aa, ca, la, vi, vj, rfl, hra, hla, hvi0, hvi1, hvj0, hvj1, hb19⟩
    have hB20 : Below w.heap.size w w6 := hB17.trans (hb19.mono hB17.size)
    have HR21 := Lib.hid (Rows.cons (HR18.out.below hb19) hra)
    clear HR18
    clear hb19 hra
    have ciAdd := fun (q : Option Addr) (d : Nat) (W : World) (k : RowAt W q (intCells la)) => impl_AddEdge q d la vi vj W k (by omega) (by omega) (by omega) (by omega) (by omega)
    have csAdd := fun (q : Option Addr) (d : Nat) (W : World) (k : RowAt W q (intCells la)) => spec_AddEdge q d la vi vj W k (by omega) (by omega) (by omega) (by omega) (by omega)
    have lMo := Mp.add_len la vi vj
    have hq2 : ((la.length / 2 : Nat) : Int) ≤ 13 := by omega
    have cBack := fun (q : Option Addr) (d : Nat) (W : World) (k : RowAt W q (intCells (Mp.add la vi vj))) => impl_DropEdge q d (Mp.add la vi vj) ((la.length / 2 : Nat) : Int) W k (by omega) (by omega) (by omega)
    have lBk := Mp.drop_len (Mp.add la vi vj) ((la.length / 2 : Nat) : Int)
    have fBk : decide (Mp.AddOk la vi vj) = true → la = Mp.drop (Mp.add la vi vj) ((la.length / 2 : Nat) : Int) ∧ true = decide (Mp.DropOk (Mp.add la vi vj) ((la.length / 2 : Nat) : Int)) ∧ ¬ Mp.genusOf (Mp.add la vi vj) < Mp.genusOf la := fun h => by have hk := of_decide_eq_true h; refine ⟨(Mp.drop_add hk).symm, (decide_eq_true (Mp.add_dropOk hk)).symm, ?_⟩; rw [show Mp.genusOf la = Mp.genus la from if_pos hk.1, show Mp.genusOf (Mp.add la vi vj) = Mp.genus (Mp.add la vi vj) from if_pos (Mp.add_isM hk)]; have := Mp.genus_add hk; omega
    have cGM := fun (q : Option Addr) (d : Nat) (W : World) (k : RowAt W q (intCells (Mp.add la vi vj))) => spec_GenusOf q d (Mp.add la vi vj)  W k (by omega)
    have cGA := fun (q : Option Addr) (d : Nat) (W : World) (k : RowAt W q (intCells la)) => spec_GenusOf q d la  W k (by omega)
    generalize decide (Mp.DropOk (Mp.add la vi vj) ((la.length / 2 : Nat) : Int)) = Bd at *
    generalize Mp.drop (Mp.add la vi vj) ((la.length / 2 : Nat) : Int) = Bk at *
    generalize Mp.genusOf (Mp.add la vi vj) = GM at *
    generalize Mp.genusOf la = GA at *
    generalize decide (Mp.AddOk la vi vj) = Bn at *
    generalize Mp.add la vi vj = Mo at *
    have HciAdd := Lib.hid ciAdd; have HcsAdd := Lib.hid csAdd; have HcBack := Lib.hid cBack; have HcGM := Lib.hid cGM; have HcGA := Lib.hid cGA; have HfBk := Lib.hid fBk; clear ciAdd csAdd cBack cGM cGA fBk
    go_wp2_with fail
    refine (HciAdd.out aa ca w6 (HR21.out.get aa la (by simp))).mono ?_
    rintro e w7 ⟨a22, c23, rfl, _, _, hf24, hb25⟩
    have hB26 : Below w.heap.size w w7 := hB20.trans (hb25.mono hB20.size)
    have HR27 := Lib.hid (Rows.cons (HR21.out.below hb25) hf24.row)
    clear HR21
    clear hf24 hb25
    go_wp2_with fail
    refine (HcsAdd.out aa ca w7 (HR27.out.get aa la (by simp))).mono ?_
    rintro e w8 ⟨a28, c29, rfl, _, _, hf30, hb31⟩
    have hB32 : Below w.heap.size w w8 := hB26.trans (hb31.mono hB26.size)
    have HR33 := Lib.hid (Rows.cons (HR27.out.below hb31) hf30.row)
    clear HR27
    clear hf30 hb31
    go_wp2_with fail
    refine (drawSubdivideEdge a c l w8 (Ha.out.below hB32) Hb.out hsz).mono ?_
    rintro e w9 ⟨az, cz, lz, vk, rfl, hrz, hlz, hvk0, hvk1, hb34⟩
    have hB35 : Below w.heap.size w w9 := hB32.trans (hb34.mono hB32.size)
    have HR36 := Lib.hid (Rows.cons (HR33.out.below hb34) hrz)
    clear HR33
    clear hb34 hrz
    have ciSub := fun (q : Option Addr) (d : Nat) (W : World) (k : RowAt W q (intCells lz)) => impl_SubdivideEdge q d lz vk W k (by omega) (by omega) (by omega)
    have csSub := fun (q : Option Addr) (d : Nat) (W : World) (k : RowAt W q (intCells lz)) => spec_SubdivideEdge q d lz vk W k (by omega) (by omega) (by omega)
    have lCu := Mp.sub_len lz vk
    have cGC := fun (q : Option Addr) (d : Nat) (W : World) (k : RowAt W q (intCells (Mp.sub lz vk))) => spec_GenusOf q d (Mp.sub lz vk)  W k (by omega)
    have cGS := fun (q : Option Addr) (d : Nat) (W : World) (k : RowAt W q (intCells lz)) => spec_GenusOf q d lz  W k (by omega)
    have cCC := fun (q : Option Addr) (d : Nat) (W : World) (k : RowAt W q (intCells (Mp.sub lz vk))) => spec_CyclesOf q d (Mp.sub lz vk)  W k (by omega)
    have cCS := fun (q : Option Addr) (d : Nat) (W : World) (k : RowAt W q (intCells lz)) => spec_CyclesOf q d lz  W k (by omega)
    have fCu : decide (Mp.SubOk lz vk) = true → Mp.genusOf lz = Mp.genusOf (Mp.sub lz vk) ∧ ((Mp.cyclesOf (Mp.sub lz vk)).length : Int) = ((Mp.cyclesOf lz).length : Int) + 1 := fun h => by have hk := of_decide_eq_true h; obtain ⟨h1, h2, h3⟩ := Mp.sub_facts hk; rw [show Mp.genusOf lz = Mp.genus lz from if_pos hk.1.1, show Mp.genusOf (Mp.sub lz vk) = Mp.genus (Mp.sub lz vk) from if_pos h1, show Mp.cyclesOf lz = Mp.cycles lz from if_pos hk.1.1, show Mp.cyclesOf (Mp.sub lz vk) = Mp.cycles (Mp.sub lz vk) from if_pos h1]; refine ⟨h2.symm, ?_⟩; unfold Mp.cycles; rw [Mp.natRows_len, Mp.natRows_len, h3]; omega
    have bCS : (Mp.cyclesOf lz).length ≤ 1000000 := by have := Mp.cyclesOf_tot lz; unfold tot at this; omega
    generalize Mp.genusOf (Mp.sub lz vk) = GC at *
    generalize Mp.genusOf lz = GS at *
    generalize Mp.cyclesOf (Mp.sub lz vk) = CC at *
    generalize Mp.cyclesOf lz = CS at *
    generalize decide (Mp.SubOk lz vk) = Bf at *
    generalize Mp.sub lz vk = Cu at *
    have hwCS : IntKind.i64.wrap ((CS.length : Int) + 1) = (CS.length : Int) + 1 := wrap_small (by omega) (by omega)
    have HciSub := Lib.hid ciSub; have HcsSub := Lib.hid csSub; have HcGC := Lib.hid cGC; have HcGS := Lib.hid cGS; have HcCC := Lib.hid cCC; have HcCS := Lib.hid cCS; have HfCu := Lib.hid fCu; clear ciSub csSub cGC cGS cCC cCS fCu
    go_wp2_with fail
    refine (HciSub.out az cz w9 (HR36.out.get az lz (by simp))).mono ?_
    rintro e w10 ⟨a37, c38, rfl, _, _, hf39, hb40⟩
    have hB41 : Below w.heap.size w w10 := hB35.trans (hb40.mono hB35.size)
    have HR42 := Lib.hid (Rows.cons (HR36.out.below hb40) hf39.row)
    clear HR36
    clear hf39 hb40
    go_wp2_with fail
    refine (HcsSub.out az cz w10 (HR42.out.get az lz (by simp))).mono ?_
    rintro e w11 ⟨a43, c44, rfl, _, _, hf45, hb46⟩
    have hB47 : Below w.heap.size w w11 := hB41.trans (hb46.mono hB41.size)
    have HR48 := Lib.hid (Rows.cons (HR42.out.below hb46) hf45.row)
    clear HR42
    clear hf45 hb46
    have ciIsMap := fun (q : Option Addr) (d : Nat) (W : World) (k : RowAt W q (intCells lm)) => impl_IsMap q d lm  W k (by omega)
    have ciDualMap := fun (q : Option Addr) (d : Nat) (W : World) (k : RowAt W q (intCells lm)) => impl_DualMap q d lm  W k (by omega)
    have ciMirrorMap := fun (q : Option Addr) (d : Nat) (W : World) (k : RowAt W q (intCells lm)) => impl_MirrorMap q d lm  W k (by omega)
    have ciCyclesOf := fun (q : Option Addr) (d : Nat) (W : World) (k : RowAt W q (intCells lm)) => impl_CyclesOf q d lm  W k (by omega)
    have ciFacesOf := fun (q : Option Addr) (d : Nat) (W : World) (k : RowAt W q (intCells lm)) => impl_FacesOf q d lm  W k (by omega)
    have ciMapParts := fun (q : Option Addr) (d : Nat) (W : World) (k : RowAt W q (intCells lm)) => impl_MapParts q d lm  W k (by omega)
    have ciGenusOf := fun (q : Option Addr) (d : Nat) (W : World) (k : RowAt W q (intCells lm)) => impl_GenusOf q d lm  W k (by omega)
    have csIsMap := fun (q : Option Addr) (d : Nat) (W : World) (k : RowAt W q (intCells lm)) => spec_IsMap q d lm  W k (by omega)
    have csDualMap := fun (q : Option Addr) (d : Nat) (W : World) (k : RowAt W q (intCells lm)) => spec_DualMap q d lm  W k (by omega)
    have csMirrorMap := fun (q : Option Addr) (d : Nat) (W : World) (k : RowAt W q (intCells lm)) => spec_MirrorMap q d lm  W k (by omega)
    have csCyclesOf := fun (q : Option Addr) (d : Nat) (W : World) (k : RowAt W q (intCells lm)) => spec_CyclesOf q d lm  W k (by omega)
    have csFacesOf := fun (q : Option Addr) (d : Nat) (W : World) (k : RowAt W q (intCells lm)) => spec_FacesOf q d lm  W k (by omega)
    have csMapParts := fun (q : Option Addr) (d : Nat) (W : World) (k : RowAt W q (intCells lm)) => spec_MapParts q d lm  W k (by omega)
    have csGenusOf := fun (q : Option Addr) (d : Nat) (W : World) (k : RowAt W q (intCells lm)) => spec_GenusOf q d lm  W k (by omega)
    have lDu := Mp.dualOf_len lm
    have lMi := Mp.mirrorOf_len lm
    have tCy := Mp.cyclesOf_tot lm
    have tFa := Mp.facesOf_tot lm
    have cDD := fun (q : Option Addr) (d : Nat) (W : World) (k : RowAt W q (intCells (Mp.dualOf lm))) => impl_DualMap q d (Mp.dualOf lm)  W k (by omega)
    have cMM := fun (q : Option Addr) (d : Nat) (W : World) (k : RowAt W q (intCells (Mp.mirrorOf lm))) => impl_MirrorMap q d (Mp.mirrorOf lm)  W k (by omega)
    have cGDu := fun (q : Option Addr) (d : Nat) (W : World) (k : RowAt W q (intCells (Mp.dualOf lm))) => impl_GenusOf q d (Mp.dualOf lm)  W k (by omega)
    have cGMi := fun (q : Option Addr) (d : Nat) (W : World) (k : RowAt W q (intCells (Mp.mirrorOf lm))) => impl_GenusOf q d (Mp.mirrorOf lm)  W k (by omega)
    have cCD := fun (q : Option Addr) (d : Nat) (W : World) (k : RowAt W q (intCells (Mp.dualOf lm))) => impl_CyclesOf q d (Mp.dualOf lm)  W k (by omega)
    rw [Mp.facesOf_dual] at cCD
    have lDD := Mp.dualOf_len (Mp.dualOf lm)
    have lMM := Mp.mirrorOf_len (Mp.mirrorOf lm)
    have fN : decide (Mp.IsM lm) = false → [] = Mp.dualOf lm ∧ -1 = Mp.genusOf lm := fun h => by have hk := of_decide_eq_false h; exact ⟨(if_neg hk).symm, (if_neg hk).symm⟩
    have fY : decide (Mp.IsM lm) = true → lm = Mp.dualOf (Mp.dualOf lm) ∧ lm = Mp.mirrorOf (Mp.mirrorOf lm) ∧ Mp.genusOf lm = Mp.genusOf (Mp.dualOf lm) ∧ Mp.genusOf lm = Mp.genusOf (Mp.mirrorOf lm) ∧ 0 ≤ Mp.genusOf lm := fun h => by have hk := of_decide_eq_true h; have e1 : Mp.dualOf lm = Mp.dual lm := if_pos hk; have e2 : Mp.mirrorOf lm = Mp.mirror lm := if_pos hk; rw [e1, e2, show Mp.genusOf lm = Mp.genus lm from if_pos hk, show Mp.dualOf (Mp.dual lm) = Mp.dual (Mp.dual lm) from if_pos (Mp.dual_isM hk), show Mp.mirrorOf (Mp.mirror lm) = Mp.mirror (Mp.mirror lm) from if_pos (Mp.mirror_isM hk), show Mp.genusOf (Mp.dual lm) = Mp.genus (Mp.dual lm) from if_pos (Mp.dual_isM hk), show Mp.genusOf (Mp.mirror lm) = Mp.genus (Mp.mirror lm) from if_pos (Mp.mirror_isM hk)]; exact ⟨(Mp.dual_dual hk).symm, (Mp.mirror_mirror hk).symm, (Mp.genus_dual hk).symm, (Mp.genus_mirror hk).symm, Mp.genus_nonneg hk⟩
    generalize Mp.genusOf (Mp.dualOf lm) = GDu at *
    generalize Mp.genusOf (Mp.mirrorOf lm) = GMi at *
    generalize Mp.dualOf (Mp.dualOf lm) = DD at *
    generalize Mp.mirrorOf (Mp.mirrorOf lm) = MM at *
    generalize Mp.dualOf lm = Du at *
    generalize Mp.mirrorOf lm = Mi at *
    generalize Mp.cyclesOf lm = Cy at *
    generalize Mp.facesOf lm = Fa at *
    generalize Mp.partsOf lm = Pa at *
    generalize Mp.genusOf lm = Ge at *
    generalize decide (Mp.IsM lm) = Bm at *
    have HciIsMap := Lib.hid ciIsMap; have HciDualMap := Lib.hid ciDualMap; have HciMirrorMap := Lib.hid ciMirrorMap; have HciCyclesOf := Lib.hid ciCyclesOf; have HciFacesOf := Lib.hid ciFacesOf; have HciMapParts := Lib.hid ciMapParts; have HciGenusOf := Lib.hid ciGenusOf; have HcsIsMap := Lib.hid csIsMap; have HcsDualMap := Lib.hid csDualMap; have HcsMirrorMap := Lib.hid csMirrorMap; have HcsCyclesOf := Lib.hid csCyclesOf; have HcsFacesOf := Lib.hid csFacesOf; have HcsMapParts := Lib.hid csMapParts; have HcsGenusOf := Lib.hid csGenusOf; have HcDD := Lib.hid cDD; have HcMM := Lib.hid cMM; have HcGDu := Lib.hid cGDu; have HcGMi := Lib.hid cGMi; have HcCD := Lib.hid cCD; have HfN := Lib.hid fN; have HfY := Lib.hid fY
    clear ciIsMap ciDualMap ciMirrorMap ciCyclesOf ciFacesOf ciMapParts ciGenusOf csIsMap csDualMap csMirrorMap csCyclesOf csFacesOf csMapParts csGenusOf cDD cMM cGDu cGMi cCD fN fY
    go_wp2_with fail
    refine (HciDualMap.out am cm w11 (HR48.out.get am lm (by simp))).mono ?_
    rintro e w12 ⟨a49, c50, rfl, _, _, hf51, hb52⟩
    have hB53 : Below w.heap.size w w12 := hB47.trans (hb52.mono hB47.size)
    have HR54 := Lib.hid (Rows.cons (HR48.out.below hb52) hf51.row)
    clear HR48
    clear hf51 hb52
    go_wp2_with fail
    refine (HciMirrorMap.out am cm w12 (HR54.out.get am lm (by simp))).mono ?_
    rintro e w13 ⟨a55, c56, rfl, _, _, hf57, hb58⟩
    have hB59 : Below w.heap.size w w13 := hB53.trans (hb58.mono hB53.size)
    have HR60 := Lib.hid (Rows.cons (HR54.out.below hb58) hf57.row)
    clear HR54
    clear hf57 hb58
    go_wp2_with fail
    refine (sameInts_eq a7 a13 c8 c14 Ls w13 (HR60.out.get a7 Ls (by simp)) (HR60.out.get a13 Ls (by simp)) (Nat.le_trans lLs (by decide))).mono ?_
    rintro e w14 ⟨rfl, hb61⟩
    have hB62 : Below w.heap.size w w14 := hB59.trans (hb61.mono hB59.size)
    have HR63 := Lib.hid (HR60.out.below hb61)
    clear HR60
    clear hb61
    go_wp2_with fail
    refine (sameInts_eq a22 a28 c23 c29 Mo w14 (HR63.out.get a22 Mo (by simp)) (HR63.out.get a28 Mo (by simp)) (Nat.le_trans lMo (by decide))).mono ?_
    rintro e w15 ⟨rfl, hb64⟩
    have hB65 : Below w.heap.size w w15 := hB62.trans (hb64.mono hB62.size)
    have HR66 := Lib.hid (HR63.out.below hb64)
    clear HR63
    clear hb64
    go_wp2_with fail
    refine (sameInts_eq a37 a43 c38 c44 Cu w15 (HR66.out.get a37 Cu (by simp)) (HR66.out.get a43 Cu (by simp)) (Nat.le_trans lCu (by decide))).mono ?_
    rintro e w16 ⟨rfl, hb67⟩
    have hB68 : Below w.heap.size w w16 := hB65.trans (hb67.mono hB65.size)
    have HR69 := Lib.hid (HR66.out.below hb67)
    clear HR66
    clear hb67
    go_wp2_with fail
    refine (HcsDualMap.out am cm w16 (HR69.out.get am lm (by simp))).mono ?_
    rintro e w17 ⟨a70, c71, rfl, _, _, hf72, hb73⟩
    have hB74 : Below w.heap.size w w17 := hB68.trans (hb73.mono hB68.size)
    have HR75 := Lib.hid (Rows.cons (HR69.out.below hb73) hf72.row)
    clear HR69
    clear hf72 hb73
    go_wp2_with fail
    refine (sameInts_eq a49 a70 c50 c71 Du w17 (HR75.out.get a49 Du (by simp)) (HR75.out.get a70 Du (by simp)) (Nat.le_trans lDu (by decide))).mono ?_
    rintro e w18 ⟨rfl, hb76⟩
    have hB77 : Below w.heap.size w w18 := hB74.trans (hb76.mono hB74.size)
    have HR78 := Lib.hid (HR75.out.below hb76)
    clear HR75
    clear hb76
    go_wp2_with fail
    refine (HcsMirrorMap.out am cm w18 (HR78.out.get am lm (by simp))).mono ?_
    rintro e w19 ⟨a79, c80, rfl, _, _, hf81, hb82⟩
    have hB83 : Below w.heap.size w w19 := hB77.trans (hb82.mono hB77.size)
    have HR84 := Lib.hid (Rows.cons (HR78.out.below hb82) hf81.row)
    clear HR78
    clear hf81 hb82
    go_wp2_with fail
    refine (sameInts_eq a55 a79 c56 c80 Mi w19 (HR84.out.get a55 Mi (by simp)) (HR84.out.get a79 Mi (by simp)) (Nat.le_trans lMi (by decide))).mono ?_
    rintro e w20 ⟨rfl, hb85⟩
    have hB86 : Below w.heap.size w w20 := hB83.trans (hb85.mono hB83.size)
    have HR87 := Lib.hid (HR84.out.below hb85)
    clear HR84
    clear hb85
    go_wp2_with fail
    refine (HciIsMap.out am cm w20 (HR87.out.get am lm (by simp))).mono ?_
    rintro e w21 ⟨rfl, hb88⟩
    have hB89 : Below w.heap.size w w21 := hB86.trans (hb88.mono hB86.size)
    have HR90 := Lib.hid (HR87.out.below hb88)
    clear HR87
    clear hb88
    go_wp2_with fail
    refine (HcsIsMap.out am cm w21 (HR90.out.get am lm (by simp))).mono ?_
    rintro e w22 ⟨rfl, hb91⟩
    have hB92 : Below w.heap.size w w22 := hB89.trans (hb91.mono hB89.size)
    have HR93 := Lib.hid (HR90.out.below hb91)
    clear HR90
    clear hb91
    go_wp2_with fail
    refine (HciCyclesOf.out am cm w22 (HR93.out.get am lm (by simp))).mono ?_
    rintro e w23 ⟨a94, c95, rfl, _, _, hf96, hb97⟩
    have HG98 := Lib.hid hf96.grid
    have hB99 : Below w.heap.size w w23 := hB92.trans (hb97.mono hB92.size)
    have HR100 := Lib.hid (HR93.out.below hb97)
    clear HR93
    clear hf96 hb97
    go_wp2_with fail
    refine (HcsCyclesOf.out am cm w23 (HR100.out.get am lm (by simp))).mono ?_
    rintro e w24 ⟨a101, c102, rfl, _, _, hf103, hb104⟩
    have HG105 := Lib.hid hf103.grid
    have HG106 := Lib.hid (HG98.out.below hb104)
    have hB107 : Below w.heap.size w w24 := hB99.trans (hb104.mono hB99.size)
    have HR108 := Lib.hid (HR100.out.below hb104)
    clear HR100
    clear hf103 hb104
    go_wp2_with fail
    refine (sameLists_eq a94 a101 c95 c102 Cy w24 HG106.out HG105.out (Nat.le_trans tCy (by decide))).mono ?_
    rintro e w25 ⟨rfl, hb109⟩
    have hB110 : Below w.heap.size w w25 := hB107.trans (hb109.mono hB107.size)
    have HR111 := Lib.hid (HR108.out.below hb109)
    clear HR108
    clear hb109
    go_wp2_with fail
    refine (HciFacesOf.out am cm w25 (HR111.out.get am lm (by simp))).mono ?_
    rintro e w26 ⟨a112, c113, rfl, _, _, hf114, hb115⟩
    have HG116 := Lib.hid hf114.grid
    have hB117 : Below w.heap.size w w26 := hB110.trans (hb115.mono hB110.size)
    have HR118 := Lib.hid (HR111.out.below hb115)
    clear HR111
    clear hf114 hb115
    go_wp2_with fail
    refine (HcsFacesOf.out am cm w26 (HR118.out.get am lm (by simp))).mono ?_
    rintro e w27 ⟨a119, c120, rfl, _, _, hf121, hb122⟩
    have HG123 := Lib.hid hf121.grid
    have HG124 := Lib.hid (HG116.out.below hb122)
    have hB125 : Below w.heap.size w w27 := hB117.trans (hb122.mono hB117.size)
    have HR126 := Lib.hid (HR118.out.below hb122)
    clear HR118
    clear hf121 hb122
    go_wp2_with fail
    refine (sameLists_eq a112 a119 c113 c120 Fa w27 HG124.out HG123.out (Nat.le_trans tFa (by decide))).mono ?_
    rintro e w28 ⟨rfl, hb127⟩
    have hB128 : Below w.heap.size w w28 := hB125.trans (hb127.mono hB125.size)
    have HR129 := Lib.hid (HR126.out.below hb127)
    clear HR126
    clear hb127
    go_wp2_with fail
    refine (HciMapParts.out am cm w28 (HR129.out.get am lm (by simp))).mono ?_
    rintro e w29 ⟨rfl, hb130⟩
    have hB131 : Below w.heap.size w w29 := hB128.trans (hb130.mono hB128.size)
    have HR132 := Lib.hid (HR129.out.below hb130)
    clear HR129
    clear hb130
    go_wp2_with fail
    refine (HcsMapParts.out am cm w29 (HR132.out.get am lm (by simp))).mono ?_
    rintro e w30 ⟨rfl, hb133⟩
    have hB134 : Below w.heap.size w w30 := hB131.trans (hb133.mono hB131.size)
    have HR135 := Lib.hid (HR132.out.below hb133)
    clear HR132
    clear hb133
    go_wp2_with fail
    refine (HciGenusOf.out am cm w30 (HR135.out.get am lm (by simp))).mono ?_
    rintro e w31 ⟨rfl, hb136⟩
    have hB137 : Below w.heap.size w w31 := hB134.trans (hb136.mono hB134.size)
    have HR138 := Lib.hid (HR135.out.below hb136)
    clear HR135
    clear hb136
    go_wp2_with fail
    refine (HcsGenusOf.out am cm w31 (HR138.out.get am lm (by simp))).mono ?_
    rintro e w32 ⟨rfl, hb139⟩
    have hB140 : Below w.heap.size w w32 := hB137.trans (hb139.mono hB137.size)
    have HR141 := Lib.hid (HR138.out.below hb139)
    clear HR138
    clear hb139
    cases Bn with
    | false =>
      cases Bf with
      | false =>
        cases Bo with
        | false =>
          go_wp2_with fail
          refine (HcsIsMap.out am cm w32 (HR141.out.get am lm (by simp))).mono ?_
          rintro e w33 ⟨rfl, hb142⟩
          have hB143 : Below w.heap.size w w33 := hB140.trans (hb142.mono hB140.size)
          have HR144 := Lib.hid (HR141.out.below hb142)
          clear HR141
          clear hb142
          cases Bm with
          | false =>
            obtain ⟨hk7, hk8⟩ := HfN.out rfl
            subst hk7
            subst hk8
            go_wp2_with fail
            refine (HciGenusOf.out am cm w33 (HR144.out.get am lm (by simp))).mono ?_
            rintro e w34 ⟨rfl, hb145⟩
            have hB146 : Below w.heap.size w w34 := hB143.trans (hb145.mono hB143.size)
            have HR147 := Lib.hid (HR144.out.below hb145)
            clear HR144
            clear hb145
            go_wp2
            go_ret
            exact ⟨rfl, hB146⟩
          | true =>
            obtain ⟨hk7, hk8, hk9, hk10, hk11⟩ := HfY.out rfl
            subst hk7
            subst hk8
            subst hk9
            subst hk10
            go_wp2_with fail
            refine (HcDD.out a49 c50 w33 (HR144.out.get a49 Du (by simp))).mono ?_
            rintro e w35 ⟨a148, c149, rfl, _, _, hf150, hb151⟩
            have hB152 : Below w.heap.size w w35 := hB143.trans (hb151.mono hB143.size)
            have HR153 := Lib.hid (Rows.cons (HR144.out.below hb151) hf150.row)
            clear HR144
            clear hf150 hb151
            go_wp2_with fail
            refine (sameInts_eq a148 am c149 cm lm w35 (HR153.out.get a148 lm (by simp)) (HR153.out.get am lm (by simp)) (Nat.le_trans hlm (by decide))).mono ?_
            rintro e w36 ⟨rfl, hb154⟩
            have hB155 : Below w.heap.size w w36 := hB152.trans (hb154.mono hB152.size)
            have HR156 := Lib.hid (HR153.out.below hb154)
            clear HR153
            clear hb154
            go_wp2_with fail
            refine (HcMM.out a55 c56 w36 (HR156.out.get a55 Mi (by simp))).mono ?_
            rintro e w37 ⟨a157, c158, rfl, _, _, hf159, hb160⟩
            have hB161 : Below w.heap.size w w37 := hB155.trans (hb160.mono hB155.size)
            have HR162 := Lib.hid (Rows.cons (HR156.out.below hb160) hf159.row)
            clear HR156
            clear hf159 hb160
            go_wp2_with fail
            refine (sameInts_eq a157 am c158 cm lm w37 (HR162.out.get a157 lm (by simp)) (HR162.out.get am lm (by simp)) (Nat.le_trans hlm (by decide))).mono ?_
            rintro e w38 ⟨rfl, hb163⟩
            have hB164 : Below w.heap.size w w38 := hB161.trans (hb163.mono hB161.size)
            have HR165 := Lib.hid (HR162.out.below hb163)
            clear HR162
            clear hb163
            go_wp2_with fail
            refine (HcGDu.out a49 c50 w38 (HR165.out.get a49 Du (by simp))).mono ?_
            rintro e w39 ⟨rfl, hb166⟩
            have hB167 : Below w.heap.size w w39 := hB164.trans (hb166.mono hB164.size)
            have HR168 := Lib.hid (HR165.out.below hb166)
            clear HR165
            clear hb166
            go_wp2_with fail
            refine (HciGenusOf.out am cm w39 (HR168.out.get am lm (by simp))).mono ?_
            rintro e w40 ⟨rfl, hb169⟩
            have hB170 : Below w.heap.size w w40 := hB167.trans (hb169.mono hB167.size)
            have HR171 := Lib.hid (HR168.out.below hb169)
            clear HR168
            clear hb169
            go_wp2_with fail
            refine (HcGMi.out a55 c56 w40 (HR171.out.get a55 Mi (by simp))).mono ?_
            rintro e w41 ⟨rfl, hb172⟩
            have hB173 : Below w.heap.size w w41 := hB170.trans (hb172.mono hB170.size)
            have HR174 := Lib.hid (HR171.out.below hb172)
            clear HR171
            clear hb172
            go_wp2_with fail
            refine (HciGenusOf.out am cm w41 (HR174.out.get am lm (by simp))).mono ?_
            rintro e w42 ⟨rfl, hb175⟩
            have hB176 : Below w.heap.size w w42 := hB173.trans (hb175.mono hB173.size)
            have HR177 := Lib.hid (HR174.out.below hb175)
            clear HR174
            clear hb175
            go_wp2_with fail
            refine (HcCD.out a49 c50 w42 (HR177.out.get a49 Du (by simp))).mono ?_
            rintro e w43 ⟨a178, c179, rfl, _, _, hf180, hb181⟩
            have HG182 := Lib.hid hf180.grid
            have hB183 : Below w.heap.size w w43 := hB176.trans (hb181.mono hB176.size)
            have HR184 := Lib.hid (HR177.out.below hb181)
            clear HR177
            clear hf180 hb181
            go_wp2_with fail
            refine (HciFacesOf.out am cm w43 (HR184.out.get am lm (by simp))).mono ?_
            rintro e w44 ⟨a185, c186, rfl, _, _, hf187, hb188⟩
            have HG189 := Lib.hid hf187.grid
            have HG190 := Lib.hid (HG182.out.below hb188)
            have hB191 : Below w.heap.size w w44 := hB183.trans (hb188.mono hB183.size)
            have HR192 := Lib.hid (HR184.out.below hb188)
            clear HR184
            clear hf187 hb188
            go_wp2_with fail
            refine (sameLists_eq a178 a185 c179 c186 Fa w44 HG190.out HG189.out (Nat.le_trans tFa (by decide))).mono ?_
            rintro e w45 ⟨rfl, hb193⟩
            have hB194 : Below w.heap.size w w45 := hB191.trans (hb193.mono hB191.size)
            have HR195 := Lib.hid (HR192.out.below hb193)
            clear HR192
            clear hb193
            go_wp2_with fail
            refine (HciGenusOf.out am cm w45 (HR195.out.get am lm (by simp))).mono ?_
            rintro e w46 ⟨rfl, hb196⟩
            have hB197 : Below w.heap.size w w46 := hB194.trans (hb196.mono hB194.size)
            have HR198 := Lib.hid (HR195.out.below hb196)
            clear HR195
            clear hb196
            go_wp2
            go_ret
            exact ⟨rfl, hB197⟩
        | true =>
          have hk6 := HfLs.out rfl
          go_wp2_with fail
          refine (HcGL.out a7 c8 w32 (HR141.out.get a7 Ls (by simp))).mono ?_
          rintro e w47 ⟨rfl, hb199⟩
          have hB200 : Below w.heap.size w w47 := hB140.trans (hb199.mono hB140.size)
          have HR201 := Lib.hid (HR141.out.below hb199)
          clear HR141
          clear hb199
          go_wp2_with fail
          refine (HcGD.out ad cd w47 (HR201.out.get ad ld (by simp))).mono ?_
          rintro e w48 ⟨rfl, hb202⟩
          have hB203 : Below w.heap.size w w48 := hB200.trans (hb202.mono hB200.size)
          have HR204 := Lib.hid (HR201.out.below hb202)
          clear HR201
          clear hb202
          go_wp2_with fail
          refine (HcsIsMap.out am cm w48 (HR204.out.get am lm (by simp))).mono ?_
          rintro e w49 ⟨rfl, hb205⟩
          have hB206 : Below w.heap.size w w49 := hB203.trans (hb205.mono hB203.size)
          have HR207 := Lib.hid (HR204.out.below hb205)
          clear HR204
          clear hb205
          cases Bm with
          | false =>
            obtain ⟨hk7, hk8⟩ := HfN.out rfl
            subst hk7
            subst hk8
            go_wp2_with fail
            refine (HciGenusOf.out am cm w49 (HR207.out.get am lm (by simp))).mono ?_
            rintro e w50 ⟨rfl, hb208⟩
            have hB209 : Below w.heap.size w w50 := hB206.trans (hb208.mono hB206.size)
            have HR210 := Lib.hid (HR207.out.below hb208)
            clear HR207
            clear hb208
            go_wp2
            go_ret
            exact ⟨rfl, hB209⟩
          | true =>
            obtain ⟨hk7, hk8, hk9, hk10, hk11⟩ := HfY.out rfl
            subst hk7
            subst hk8
            subst hk9
            subst hk10
            go_wp2_with fail
            refine (HcDD.out a49 c50 w49 (HR207.out.get a49 Du (by simp))).mono ?_
            rintro e w51 ⟨a211, c212, rfl, _, _, hf213, hb214⟩
            have hB215 : Below w.heap.size w w51 := hB206.trans (hb214.mono hB206.size)
            have HR216 := Lib.hid (Rows.cons (HR207.out.below hb214) hf213.row)
            clear HR207
            clear hf213 hb214
            go_wp2_with fail
            refine (sameInts_eq a211 am c212 cm lm w51 (HR216.out.get a211 lm (by simp)) (HR216.out.get am lm (by simp)) (Nat.le_trans hlm (by decide))).mono ?_
            rintro e w52 ⟨rfl, hb217⟩
            have hB218 : Below w.heap.size w w52 := hB215.trans (hb217.mono hB215.size)
            have HR219 := Lib.hid (HR216.out.below hb217)
            clear HR216
            clear hb217
            go_wp2_with fail
            refine (HcMM.out a55 c56 w52 (HR219.out.get a55 Mi (by simp))).mono ?_
            rintro e w53 ⟨a220, c221, rfl, _, _, hf222, hb223⟩
            have hB224 : Below w.heap.size w w53 := hB218.trans (hb223.mono hB218.size)
            have HR225 := Lib.hid (Rows.cons (HR219.out.below hb223) hf222.row)
            clear HR219
            clear hf222 hb223
            go_wp2_with fail
            refine (sameInts_eq a220 am c221 cm lm w53 (HR225.out.get a220 lm (by simp)) (HR225.out.get am lm (by simp)) (Nat.le_trans hlm (by decide))).mono ?_
            rintro e w54 ⟨rfl, hb226⟩
            have hB227 : Below w.heap.size w w54 := hB224.trans (hb226.mono hB224.size)
            have HR228 := Lib.hid (HR225.out.below hb226)
            clear HR225
            clear hb226
            go_wp2_with fail
            refine (HcGDu.out a49 c50 w54 (HR228.out.get a49 Du (by simp))).mono ?_
            rintro e w55 ⟨rfl, hb229⟩
            have hB230 : Below w.heap.size w w55 := hB227.trans (hb229.mono hB227.size)
            have HR231 := Lib.hid (HR228.out.below hb229)
            clear HR228
            clear hb229
            go_wp2_with fail
            refine (HciGenusOf.out am cm w55 (HR231.out.get am lm (by simp))).mono ?_
            rintro e w56 ⟨rfl, hb232⟩
            have hB233 : Below w.heap.size w w56 := hB230.trans (hb232.mono hB230.size)
            have HR234 := Lib.hid (HR231.out.below hb232)
            clear HR231
            clear hb232
            go_wp2_with fail
            refine (HcGMi.out a55 c56 w56 (HR234.out.get a55 Mi (by simp))).mono ?_
            rintro e w57 ⟨rfl, hb235⟩
            have hB236 : Below w.heap.size w w57 := hB233.trans (hb235.mono hB233.size)
            have HR237 := Lib.hid (HR234.out.below hb235)
            clear HR234
            clear hb235
            go_wp2_with fail
            refine (HciGenusOf.out am cm w57 (HR237.out.get am lm (by simp))).mono ?_
            rintro e w58 ⟨rfl, hb238⟩
            have hB239 : Below w.heap.size w w58 := hB236.trans (hb238.mono hB236.size)
            have HR240 := Lib.hid (HR237.out.below hb238)
            clear HR237
            clear hb238
            go_wp2_with fail
            refine (HcCD.out a49 c50 w58 (HR240.out.get a49 Du (by simp))).mono ?_
            rintro e w59 ⟨a241, c242, rfl, _, _, hf243, hb244⟩
            have HG245 := Lib.hid hf243.grid
            have hB246 : Below w.heap.size w w59 := hB239.trans (hb244.mono hB239.size)
            have HR247 := Lib.hid (HR240.out.below hb244)
            clear HR240
            clear hf243 hb244
            go_wp2_with fail
            refine (HciFacesOf.out am cm w59 (HR247.out.get am lm (by simp))).mono ?_
            rintro e w60 ⟨a248, c249, rfl, _, _, hf250, hb251⟩
            have HG252 := Lib.hid hf250.grid
            have HG253 := Lib.hid (HG245.out.below hb251)
            have hB254 : Below w.heap.size w w60 := hB246.trans (hb251.mono hB246.size)
            have HR255 := Lib.hid (HR247.out.below hb251)
            clear HR247
            clear hf250 hb251
            go_wp2_with fail
            refine (sameLists_eq a241 a248 c242 c249 Fa w60 HG253.out HG252.out (Nat.le_trans tFa (by decide))).mono ?_
            rintro e w61 ⟨rfl, hb256⟩
            have hB257 : Below w.heap.size w w61 := hB254.trans (hb256.mono hB254.size)
            have HR258 := Lib.hid (HR255.out.below hb256)
            clear HR255
            clear hb256
            go_wp2_with fail
            refine (HciGenusOf.out am cm w61 (HR258.out.get am lm (by simp))).mono ?_
            rintro e w62 ⟨rfl, hb259⟩
            have hB260 : Below w.heap.size w w62 := hB257.trans (hb259.mono hB257.size)
            have HR261 := Lib.hid (HR258.out.below hb259)
            clear HR258
            clear hb259
            go_wp2
            go_ret
            exact ⟨rfl, hB260⟩
      | true =>
        obtain ⟨hk4, hk5⟩ := HfCu.out rfl
        subst hk4
        go_wp2_with fail
        refine (HcGC.out a37 c38 w32 (HR141.out.get a37 Cu (by simp))).mono ?_
        rintro e w63 ⟨rfl, hb262⟩
        have hB263 : Below w.heap.size w w63 := hB140.trans (hb262.mono hB140.size)
        have HR264 := Lib.hid (HR141.out.below hb262)
        clear HR141
        clear hb262
        go_wp2_with fail
        refine (HcGS.out az cz w63 (HR264.out.get az lz (by simp))).mono ?_
        rintro e w64 ⟨rfl, hb265⟩
        have hB266 : Below w.heap.size w w64 := hB263.trans (hb265.mono hB263.size)
        have HR267 := Lib.hid (HR264.out.below hb265)
        clear HR264
        clear hb265
        go_wp2_with fail
        refine (HcCC.out a37 c38 w64 (HR267.out.get a37 Cu (by simp))).mono ?_
        rintro e w65 ⟨a268, c269, rfl, _, _, hf270, hb271⟩
        have HG272 := Lib.hid hf270.grid
        have hB273 : Below w.heap.size w w65 := hB266.trans (hb271.mono hB266.size)
        have HR274 := Lib.hid (HR267.out.below hb271)
        clear HR267
        clear hf270 hb271
        go_wp2_with fail
        refine (HcCS.out az cz w65 (HR274.out.get az lz (by simp))).mono ?_
        rintro e w66 ⟨a275, c276, rfl, _, _, hf277, hb278⟩
        have HG279 := Lib.hid hf277.grid
        have hB280 : Below w.heap.size w w66 := hB273.trans (hb278.mono hB273.size)
        have HR281 := Lib.hid (HR274.out.below hb278)
        clear HR274
        clear hf277 hb278
        cases Bo with
        | false =>
          go_wp2_with fail
          refine (HcsIsMap.out am cm w66 (HR281.out.get am lm (by simp))).mono ?_
          rintro e w67 ⟨rfl, hb282⟩
          have hB283 : Below w.heap.size w w67 := hB280.trans (hb282.mono hB280.size)
          have HR284 := Lib.hid (HR281.out.below hb282)
          clear HR281
          clear hb282
          cases Bm with
          | false =>
            obtain ⟨hk7, hk8⟩ := HfN.out rfl
            subst hk7
            subst hk8
            go_wp2_with fail
            refine (HciGenusOf.out am cm w67 (HR284.out.get am lm (by simp))).mono ?_
            rintro e w68 ⟨rfl, hb285⟩
            have hB286 : Below w.heap.size w w68 := hB283.trans (hb285.mono hB283.size)
            have HR287 := Lib.hid (HR284.out.below hb285)
            clear HR284
            clear hb285
            go_wp2
            go_ret
            exact ⟨rfl, hB286⟩
          | true =>
            obtain ⟨hk7, hk8, hk9, hk10, hk11⟩ := HfY.out rfl
            subst hk7
            subst hk8
            subst hk9
            subst hk10
            go_wp2_with fail
            refine (HcDD.out a49 c50 w67 (HR284.out.get a49 Du (by simp))).mono ?_
            rintro e w69 ⟨a288, c289, rfl, _, _, hf290, hb291⟩
            have hB292 : Below w.heap.size w w69 := hB283.trans (hb291.mono hB283.size)
            have HR293 := Lib.hid (Rows.cons (HR284.out.below hb291) hf290.row)
            clear HR284
            clear hf290 hb291
            go_wp2_with fail
            refine (sameInts_eq a288 am c289 cm lm w69 (HR293.out.get a288 lm (by simp)) (HR293.out.get am lm (by simp)) (Nat.le_trans hlm (by decide))).mono ?_
            rintro e w70 ⟨rfl, hb294⟩
            have hB295 : Below w.heap.size w w70 := hB292.trans (hb294.mono hB292.size)
            have HR296 := Lib.hid (HR293.out.below hb294)
            clear HR293
            clear hb294
            go_wp2_with fail
            refine (HcMM.out a55 c56 w70 (HR296.out.get a55 Mi (by simp))).mono ?_
            rintro e w71 ⟨a297, c298, rfl, _, _, hf299, hb300⟩
            have hB301 : Below w.heap.size w w71 := hB295.trans (hb300.mono hB295.size)
            have HR302 := Lib.hid (Rows.cons (HR296.out.below hb300) hf299.row)
            clear HR296
            clear hf299 hb300
            go_wp2_with fail
            refine (sameInts_eq a297 am c298 cm lm w71 (HR302.out.get a297 lm (by simp)) (HR302.out.get am lm (by simp)) (Nat.le_trans hlm (by decide))).mono ?_
            rintro e w72 ⟨rfl, hb303⟩
            have hB304 : Below w.heap.size w w72 := hB301.trans (hb303.mono hB301.size)
            have HR305 := Lib.hid (HR302.out.below hb303)
            clear HR302
            clear hb303
            go_wp2_with fail
            refine (HcGDu.out a49 c50 w72 (HR305.out.get a49 Du (by simp))).mono ?_
            rintro e w73 ⟨rfl, hb306⟩
            have hB307 : Below w.heap.size w w73 := hB304.trans (hb306.mono hB304.size)
            have HR308 := Lib.hid (HR305.out.below hb306)
            clear HR305
            clear hb306
            go_wp2_with fail
            refine (HciGenusOf.out am cm w73 (HR308.out.get am lm (by simp))).mono ?_
            rintro e w74 ⟨rfl, hb309⟩
            have hB310 : Below w.heap.size w w74 := hB307.trans (hb309.mono hB307.size)
            have HR311 := Lib.hid (HR308.out.below hb309)
            clear HR308
            clear hb309
            go_wp2_with fail
            refine (HcGMi.out a55 c56 w74 (HR311.out.get a55 Mi (by simp))).mono ?_
            rintro e w75 ⟨rfl, hb312⟩
            have hB313 : Below w.heap.size w w75 := hB310.trans (hb312.mono hB310.size)
            have HR314 := Lib.hid (HR311.out.below hb312)
            clear HR311
            clear hb312
            go_wp2_with fail
            refine (HciGenusOf.out am cm w75 (HR314.out.get am lm (by simp))).mono ?_
            rintro e w76 ⟨rfl, hb315⟩
            have hB316 : Below w.heap.size w w76 := hB313.trans (hb315.mono hB313.size)
            have HR317 := Lib.hid (HR314.out.below hb315)
            clear HR314
            clear hb315
            go_wp2_with fail
            refine (HcCD.out a49 c50 w76 (HR317.out.get a49 Du (by simp))).mono ?_
            rintro e w77 ⟨a318, c319, rfl, _, _, hf320, hb321⟩
            have HG322 := Lib.hid hf320.grid
            have hB323 : Below w.heap.size w w77 := hB316.trans (hb321.mono hB316.size)
            have HR324 := Lib.hid (HR317.out.below hb321)
            clear HR317
            clear hf320 hb321
            go_wp2_with fail
            refine (HciFacesOf.out am cm w77 (HR324.out.get am lm (by simp))).mono ?_
            rintro e w78 ⟨a325, c326, rfl, _, _, hf327, hb328⟩
            have HG329 := Lib.hid hf327.grid
            have HG330 := Lib.hid (HG322.out.below hb328)
            have hB331 : Below w.heap.size w w78 := hB323.trans (hb328.mono hB323.size)
            have HR332 := Lib.hid (HR324.out.below hb328)
            clear HR324
            clear hf327 hb328
            go_wp2_with fail
            refine (sameLists_eq a318 a325 c319 c326 Fa w78 HG330.out HG329.out (Nat.le_trans tFa (by decide))).mono ?_
            rintro e w79 ⟨rfl, hb333⟩
            have hB334 : Below w.heap.size w w79 := hB331.trans (hb333.mono hB331.size)
            have HR335 := Lib.hid (HR332.out.below hb333)
            clear HR332
            clear hb333
            go_wp2_with fail
            refine (HciGenusOf.out am cm w79 (HR335.out.get am lm (by simp))).mono ?_
            rintro e w80 ⟨rfl, hb336⟩
            have hB337 : Below w.heap.size w w80 := hB334.trans (hb336.mono hB334.size)
            have HR338 := Lib.hid (HR335.out.below hb336)
            clear HR335
            clear hb336
            go_wp2
            go_ret
            exact ⟨rfl, hB337⟩
        | true =>
          have hk6 := HfLs.out rfl
          go_wp2_with fail
          refine (HcGL.out a7 c8 w66 (HR281.out.get a7 Ls (by simp))).mono ?_
          rintro e w81 ⟨rfl, hb339⟩
          have hB340 : Below w.heap.size w w81 := hB280.trans (hb339.mono hB280.size)
          have HR341 := Lib.hid (HR281.out.below hb339)
          clear HR281
          clear hb339
          go_wp2_with fail
          refine (HcGD.out ad cd w81 (HR341.out.get ad ld (by simp))).mono ?_
          rintro e w82 ⟨rfl, hb342⟩
          have hB343 : Below w.heap.size w w82 := hB340.trans (hb342.mono hB340.size)
          have HR344 := Lib.hid (HR341.out.below hb342)
          clear HR341
          clear hb342
          go_wp2_with fail
          refine (HcsIsMap.out am cm w82 (HR344.out.get am lm (by simp))).mono ?_
          rintro e w83 ⟨rfl, hb345⟩
          have hB346 : Below w.heap.size w w83 := hB343.trans (hb345.mono hB343.size)
          have HR347 := Lib.hid (HR344.out.below hb345)
          clear HR344
          clear hb345
          cases Bm with
          | false =>
            obtain ⟨hk7, hk8⟩ := HfN.out rfl
            subst hk7
            subst hk8
            go_wp2_with fail
            refine (HciGenusOf.out am cm w83 (HR347.out.get am lm (by simp))).mono ?_
            rintro e w84 ⟨rfl, hb348⟩
            have hB349 : Below w.heap.size w w84 := hB346.trans (hb348.mono hB346.size)
            have HR350 := Lib.hid (HR347.out.below hb348)
            clear HR347
            clear hb348
            go_wp2
            go_ret
            exact ⟨rfl, hB349⟩
          | true =>
            obtain ⟨hk7, hk8, hk9, hk10, hk11⟩ := HfY.out rfl
            subst hk7
            subst hk8
            subst hk9
            subst hk10
            go_wp2_with fail
            refine (HcDD.out a49 c50 w83 (HR347.out.get a49 Du (by simp))).mono ?_
            rintro e w85 ⟨a351, c352, rfl, _, _, hf353, hb354⟩
            have hB355 : Below w.heap.size w w85 := hB346.trans (hb354.mono hB346.size)
            have HR356 := Lib.hid (Rows.cons (HR347.out.below hb354) hf353.row)
            clear HR347
            clear hf353 hb354
            go_wp2_with fail
            refine (sameInts_eq a351 am c352 cm lm w85 (HR356.out.get a351 lm (by simp)) (HR356.out.get am lm (by simp)) (Nat.le_trans hlm (by decide))).mono ?_
            rintro e w86 ⟨rfl, hb357⟩
            have hB358 : Below w.heap.size w w86 := hB355.trans (hb357.mono hB355.size)
            have HR359 := Lib.hid (HR356.out.below hb357)
            clear HR356
            clear hb357
            go_wp2_with fail
            refine (HcMM.out a55 c56 w86 (HR359.out.get a55 Mi (by simp))).mono ?_
            rintro e w87 ⟨a360, c361, rfl, _, _, hf362, hb363⟩
            have hB364 : Below w.heap.size w w87 := hB358.trans (hb363.mono hB358.size)
            have HR365 := Lib.hid (Rows.cons (HR359.out.below hb363) hf362.row)
            clear HR359
            clear hf362 hb363
            go_wp2_with fail
            refine (sameInts_eq a360 am c361 cm lm w87 (HR365.out.get a360 lm (by simp)) (HR365.out.get am lm (by simp)) (Nat.le_trans hlm (by decide))).mono ?_
            rintro e w88 ⟨rfl, hb366⟩
            have hB367 : Below w.heap.size w w88 := hB364.trans (hb366.mono hB364.size)
            have HR368 := Lib.hid (HR365.out.below hb366)
            clear HR365
            clear hb366
            go_wp2_with fail
            refine (HcGDu.out a49 c50 w88 (HR368.out.get a49 Du (by simp))).mono ?_
            rintro e w89 ⟨rfl, hb369⟩
            have hB370 : Below w.heap.size w w89 := hB367.trans (hb369.mono hB367.size)
            have HR371 := Lib.hid (HR368.out.below hb369)
            clear HR368
            clear hb369
            go_wp2_with fail
            refine (HciGenusOf.out am cm w89 (HR371.out.get am lm (by simp))).mono ?_
            rintro e w90 ⟨rfl, hb372⟩
            have hB373 : Below w.heap.size w w90 := hB370.trans (hb372.mono hB370.size)
            have HR374 := Lib.hid (HR371.out.below hb372)
            clear HR371
            clear hb372
            go_wp2_with fail
            refine (HcGMi.out a55 c56 w90 (HR374.out.get a55 Mi (by simp))).mono ?_
            rintro e w91 ⟨rfl, hb375⟩
            have hB376 : Below w.heap.size w w91 := hB373.trans (hb375.mono hB373.size)
            have HR377 := Lib.hid (HR374.out.below hb375)
            clear HR374
            clear hb375
            go_wp2_with fail
            refine (HciGenusOf.out am cm w91 (HR377.out.get am lm (by simp))).mono ?_
            rintro e w92 ⟨rfl, hb378⟩
            have hB379 : Below w.heap.size w w92 := hB376.trans (hb378.mono hB376.size)
            have HR380 := Lib.hid (HR377.out.below hb378)
            clear HR377
            clear hb378
            go_wp2_with fail
            refine (HcCD.out a49 c50 w92 (HR380.out.get a49 Du (by simp))).mono ?_
            rintro e w93 ⟨a381, c382, rfl, _, _, hf383, hb384⟩
            have HG385 := Lib.hid hf383.grid
            have hB386 : Below w.heap.size w w93 := hB379.trans (hb384.mono hB379.size)
            have HR387 := Lib.hid (HR380.out.below hb384)
            clear HR380
            clear hf383 hb384
            go_wp2_with fail
            refine (HciFacesOf.out am cm w93 (HR387.out.get am lm (by simp))).mono ?_
            rintro e w94 ⟨a388, c389, rfl, _, _, hf390, hb391⟩
            have HG392 := Lib.hid hf390.grid
            have HG393 := Lib.hid (HG385.out.below hb391)
            have hB394 : Below w.heap.size w w94 := hB386.trans (hb391.mono hB386.size)
            have HR395 := Lib.hid (HR387.out.below hb391)
            clear HR387
            clear hf390 hb391
            go_wp2_with fail
            refine (sameLists_eq a381 a388 c382 c389 Fa w94 HG393.out HG392.out (Nat.le_trans tFa (by decide))).mono ?_
            rintro e w95 ⟨rfl, hb396⟩
            have hB397 : Below w.heap.size w w95 := hB394.trans (hb396.mono hB394.size)
            have HR398 := Lib.hid (HR395.out.below hb396)
            clear HR395
            clear hb396
            go_wp2_with fail
            refine (HciGenusOf.out am cm w95 (HR398.out.get am lm (by simp))).mono ?_
            rintro e w96 ⟨rfl, hb399⟩
            have hB400 : Below w.heap.size w w96 := hB397.trans (hb399.mono hB397.size)
            have HR401 := Lib.hid (HR398.out.below hb399)
            clear HR398
            clear hb399
            go_wp2
            go_ret
            exact ⟨rfl, hB400⟩
    | true =>
      obtain ⟨hk1, hk2, hk3⟩ := HfBk.out rfl
      subst hk1
      subst hk2
      have hqq : ((la.length / 2 : Nat) : Int) = (la.length : Int) / 2 := by omega
      have htq : Int.tdiv (la.length : Int) 2 = ((la.length / 2 : Nat) : Int) := rfl
      have hwq : IntKind.i64.wrap ((la.length / 2 : Nat) : Int) = ((la.length / 2 : Nat) : Int) := wrap_small (by omega) (by omega)
      go_wp2_with fail
      refine (HcBack.out a22 c23 w32 (HR141.out.get a22 Mo (by simp))).mono ?_
      rintro e w97 ⟨a402, c403, rfl, _, _, hf404, hb405⟩
      have hB406 : Below w.heap.size w w97 := hB140.trans (hb405.mono hB140.size)
      have HR407 := Lib.hid (Rows.cons (HR141.out.below hb405) hf404.row)
      clear HR141
      clear hf404 hb405
      clear hqq htq hwq
      go_wp2_with fail
      refine (sameInts_eq a402 aa c403 ca la w97 (HR407.out.get a402 la (by simp)) (HR407.out.get aa la (by simp)) (Nat.le_trans hla (by decide))).mono ?_
      rintro e w98 ⟨rfl, hb408⟩
      have hB409 : Below w.heap.size w w98 := hB406.trans (hb408.mono hB406.size)
      have HR410 := Lib.hid (HR407.out.below hb408)
      clear HR407
      clear hb408
      go_wp2_with fail
      refine (HcGM.out a22 c23 w98 (HR410.out.get a22 Mo (by simp))).mono ?_
      rintro e w99 ⟨rfl, hb411⟩
      have hB412 : Below w.heap.size w w99 := hB409.trans (hb411.mono hB409.size)
      have HR413 := Lib.hid (HR410.out.below hb411)
      clear HR410
      clear hb411
      go_wp2_with fail
      refine (HcGA.out aa ca w99 (HR413.out.get aa la (by simp))).mono ?_
      rintro e w100 ⟨rfl, hb414⟩
      have hB415 : Below w.heap.size w w100 := hB412.trans (hb414.mono hB412.size)
      have HR416 := Lib.hid (HR413.out.below hb414)
      clear HR413
      clear hb414
      cases Bf with
      | false =>
        cases Bo with
        | false =>
          go_wp2_with fail
          refine (HcsIsMap.out am cm w100 (HR416.out.get am lm (by simp))).mono ?_
          rintro e w101 ⟨rfl, hb417⟩
          have hB418 : Below w.heap.size w w101 := hB415.trans (hb417.mono hB415.size)
          have HR419 := Lib.hid (HR416.out.below hb417)
          clear HR416
          clear hb417
          cases Bm with
          | false =>
            obtain ⟨hk7, hk8⟩ := HfN.out rfl
            subst hk7
            subst hk8
            go_wp2_with fail
            refine (HciGenusOf.out am cm w101 (HR419.out.get am lm (by simp))).mono ?_
            rintro e w102 ⟨rfl, hb420⟩
            have hB421 : Below w.heap.size w w102 := hB418.trans (hb420.mono hB418.size)
            have HR422 := Lib.hid (HR419.out.below hb420)
            clear HR419
            clear hb420
            go_wp2
            go_ret
            exact ⟨rfl, hB421⟩
          | true =>
            obtain ⟨hk7, hk8, hk9, hk10, hk11⟩ := HfY.out rfl
            subst hk7
            subst hk8
            subst hk9
            subst hk10
            go_wp2_with fail
            refine (HcDD.out a49 c50 w101 (HR419.out.get a49 Du (by simp))).mono ?_
            rintro e w103 ⟨a423, c424, rfl, _, _, hf425, hb426⟩
            have hB427 : Below w.heap.size w w103 := hB418.trans (hb426.mono hB418.size)
            have HR428 := Lib.hid (Rows.cons (HR419.out.below hb426) hf425.row)
            clear HR419
            clear hf425 hb426
            go_wp2_with fail
            refine (sameInts_eq a423 am c424 cm lm w103 (HR428.out.get a423 lm (by simp)) (HR428.out.get am lm (by simp)) (Nat.le_trans hlm (by decide))).mono ?_
            rintro e w104 ⟨rfl, hb429⟩
            have hB430 : Below w.heap.size w w104 := hB427.trans (hb429.mono hB427.size)
            have HR431 := Lib.hid (HR428.out.below hb429)
            clear HR428
            clear hb429
            go_wp2_with fail
            refine (HcMM.out a55 c56 w104 (HR431.out.get a55 Mi (by simp))).mono ?_
            rintro e w105 ⟨a432, c433, rfl, _, _, hf434, hb435⟩
            have hB436 : Below w.heap.size w w105 := hB430.trans (hb435.mono hB430.size)
            have HR437 := Lib.hid (Rows.cons (HR431.out.below hb435) hf434.row)
            clear HR431
            clear hf434 hb435
            go_wp2_with fail
            refine (sameInts_eq a432 am c433 cm lm w105 (HR437.out.get a432 lm (by simp)) (HR437.out.get am lm (by simp)) (Nat.le_trans hlm (by decide))).mono ?_
            rintro e w106 ⟨rfl, hb438⟩
            have hB439 : Below w.heap.size w w106 := hB436.trans (hb438.mono hB436.size)
            have HR440 := Lib.hid (HR437.out.below hb438)
            clear HR437
            clear hb438
            go_wp2_with fail
            refine (HcGDu.out a49 c50 w106 (HR440.out.get a49 Du (by simp))).mono ?_
            rintro e w107 ⟨rfl, hb441⟩
            have hB442 : Below w.heap.size w w107 := hB439.trans (hb441.mono hB439.size)
            have HR443 := Lib.hid (HR440.out.below hb441)
            clear HR440
            clear hb441
            go_wp2_with fail
            refine (HciGenusOf.out am cm w107 (HR443.out.get am lm (by simp))).mono ?_
            rintro e w108 ⟨rfl, hb444⟩
            have hB445 : Below w.heap.size w w108 := hB442.trans (hb444.mono hB442.size)
            have HR446 := Lib.hid (HR443.out.below hb444)
            clear HR443
            clear hb444
            go_wp2_with fail
            refine (HcGMi.out a55 c56 w108 (HR446.out.get a55 Mi (by simp))).mono ?_
            rintro e w109 ⟨rfl, hb447⟩
            have hB448 : Below w.heap.size w w109 := hB445.trans (hb447.mono hB445.size)
            have HR449 := Lib.hid (HR446.out.below hb447)
            clear HR446
            clear hb447
            go_wp2_with fail
            refine (HciGenusOf.out am cm w109 (HR449.out.get am lm (by simp))).mono ?_
            rintro e w110 ⟨rfl, hb450⟩
            have hB451 : Below w.heap.size w w110 := hB448.trans (hb450.mono hB448.size)
            have HR452 := Lib.hid (HR449.out.below hb450)
            clear HR449
            clear hb450
            go_wp2_with fail
            refine (HcCD.out a49 c50 w110 (HR452.out.get a49 Du (by simp))).mono ?_
            rintro e w111 ⟨a453, c454, rfl, _, _, hf455, hb456⟩
            have HG457 := Lib.hid hf455.grid
            have hB458 : Below w.heap.size w w111 := hB451.trans (hb456.mono hB451.size)
            have HR459 := Lib.hid (HR452.out.below hb456)
            clear HR452
            clear hf455 hb456
            go_wp2_with fail
            refine (HciFacesOf.out am cm w111 (HR459.out.get am lm (by simp))).mono ?_
            rintro e w112 ⟨a460, c461, rfl, _, _, hf462, hb463⟩
            have HG464 := Lib.hid hf462.grid
            have HG465 := Lib.hid (HG457.out.below hb463)
            have hB466 : Below w.heap.size w w112 := hB458.trans (hb463.mono hB458.size)
            have HR467 := Lib.hid (HR459.out.below hb463)
            clear HR459
            clear hf462 hb463
            go_wp2_with fail
            refine (sameLists_eq a453 a460 c454 c461 Fa w112 HG465.out HG464.out (Nat.le_trans tFa (by decide))).mono ?_
            rintro e w113 ⟨rfl, hb468⟩
            have hB469 : Below w.heap.size w w113 := hB466.trans (hb468.mono hB466.size)
            have HR470 := Lib.hid (HR467.out.below hb468)
            clear HR467
            clear hb468
            go_wp2_with fail
            refine (HciGenusOf.out am cm w113 (HR470.out.get am lm (by simp))).mono ?_
            rintro e w114 ⟨rfl, hb471⟩
            have hB472 : Below w.heap.size w w114 := hB469.trans (hb471.mono hB469.size)
            have HR473 := Lib.hid (HR470.out.below hb471)
            clear HR470
            clear hb471
            go_wp2
            go_ret
            exact ⟨rfl, hB472⟩
        | true =>
          have hk6 := HfLs.out rfl
          go_wp2_with fail
          refine (HcGL.out a7 c8 w100 (HR416.out.get a7 Ls (by simp))).mono ?_
          rintro e w115 ⟨rfl, hb474⟩
          have hB475 : Below w.heap.size w w115 := hB415.trans (hb474.mono hB415.size)
          have HR476 := Lib.hid (HR416.out.below hb474)
          clear HR416
          clear hb474
          go_wp2_with fail
          refine (HcGD.out ad cd w115 (HR476.out.get ad ld (by simp))).mono ?_
          rintro e w116 ⟨rfl, hb477⟩
          have hB478 : Below w.heap.size w w116 := hB475.trans (hb477.mono hB475.size)
          have HR479 := Lib.hid (HR476.out.below hb477)
          clear HR476
          clear hb477
          go_wp2_with fail
          refine (HcsIsMap.out am cm w116 (HR479.out.get am lm (by simp))).mono ?_
          rintro e w117 ⟨rfl, hb480⟩
          have hB481 : Below w.heap.size w w117 := hB478.trans (hb480.mono hB478.size)
          have HR482 := Lib.hid (HR479.out.below hb480)
          clear HR479
          clear hb480
          cases Bm with
          | false =>
            obtain ⟨hk7, hk8⟩ := HfN.out rfl
            subst hk7
            subst hk8
            go_wp2_with fail
            refine (HciGenusOf.out am cm w117 (HR482.out.get am lm (by simp))).mono ?_
            rintro e w118 ⟨rfl, hb483⟩
            have hB484 : Below w.heap.size w w118 := hB481.trans (hb483.mono hB481.size)
            have HR485 := Lib.hid (HR482.out.below hb483)
            clear HR482
            clear hb483
            go_wp2
            go_ret
            exact ⟨rfl, hB484⟩
          | true =>
            obtain ⟨hk7, hk8, hk9, hk10, hk11⟩ := HfY.out rfl
            subst hk7
            subst hk8
            subst hk9
            subst hk10
            go_wp2_with fail
            refine (HcDD.out a49 c50 w117 (HR482.out.get a49 Du (by simp))).mono ?_
            rintro e w119 ⟨a486, c487, rfl, _, _, hf488, hb489⟩
            have hB490 : Below w.heap.size w w119 := hB481.trans (hb489.mono hB481.size)
            have HR491 := Lib.hid (Rows.cons (HR482.out.below hb489) hf488.row)
            clear HR482
            clear hf488 hb489
            go_wp2_with fail
            refine (sameInts_eq a486 am c487 cm lm w119 (HR491.out.get a486 lm (by simp)) (HR491.out.get am lm (by simp)) (Nat.le_trans hlm (by decide))).mono ?_
            rintro e w120 ⟨rfl, hb492⟩
            have hB493 : Below w.heap.size w w120 := hB490.trans (hb492.mono hB490.size)
            have HR494 := Lib.hid (HR491.out.below hb492)
            clear HR491
            clear hb492
            go_wp2_with fail
            refine (HcMM.out a55 c56 w120 (HR494.out.get a55 Mi (by simp))).mono ?_
            rintro e w121 ⟨a495, c496, rfl, _, _, hf497, hb498⟩
            have hB499 : Below w.heap.size w w121 := hB493.trans (hb498.mono hB493.size)
            have HR500 := Lib.hid (Rows.cons (HR494.out.below hb498) hf497.row)
            clear HR494
            clear hf497 hb498
            go_wp2_with fail
            refine (sameInts_eq a495 am c496 cm lm w121 (HR500.out.get a495 lm (by simp)) (HR500.out.get am lm (by simp)) (Nat.le_trans hlm (by decide))).mono ?_
            rintro e w122 ⟨rfl, hb501⟩
            have hB502 : Below w.heap.size w w122 := hB499.trans (hb501.mono hB499.size)
            have HR503 := Lib.hid (HR500.out.below hb501)
            clear HR500
            clear hb501
            go_wp2_with fail
            refine (HcGDu.out a49 c50 w122 (HR503.out.get a49 Du (by simp))).mono ?_
            rintro e w123 ⟨rfl, hb504⟩
            have hB505 : Below w.heap.size w w123 := hB502.trans (hb504.mono hB502.size)
            have HR506 := Lib.hid (HR503.out.below hb504)
            clear HR503
            clear hb504
            go_wp2_with fail
            refine (HciGenusOf.out am cm w123 (HR506.out.get am lm (by simp))).mono ?_
            rintro e w124 ⟨rfl, hb507⟩
            have hB508 : Below w.heap.size w w124 := hB505.trans (hb507.mono hB505.size)
            have HR509 := Lib.hid (HR506.out.below hb507)
            clear HR506
            clear hb507
            go_wp2_with fail
            refine (HcGMi.out a55 c56 w124 (HR509.out.get a55 Mi (by simp))).mono ?_
            rintro e w125 ⟨rfl, hb510⟩
            have hB511 : Below w.heap.size w w125 := hB508.trans (hb510.mono hB508.size)
            have HR512 := Lib.hid (HR509.out.below hb510)
            clear HR509
            clear hb510
            go_wp2_with fail
            refine (HciGenusOf.out am cm w125 (HR512.out.get am lm (by simp))).mono ?_
            rintro e w126 ⟨rfl, hb513⟩
            have hB514 : Below w.heap.size w w126 := hB511.trans (hb513.mono hB511.size)
            have HR515 := Lib.hid (HR512.out.below hb513)
            clear HR512
            clear hb513
            go_wp2_with fail
            refine (HcCD.out a49 c50 w126 (HR515.out.get a49 Du (by simp))).mono ?_
            rintro e w127 ⟨a516, c517, rfl, _, _, hf518, hb519⟩
            have HG520 := Lib.hid hf518.grid
            have hB521 : Below w.heap.size w w127 := hB514.trans (hb519.mono hB514.size)
            have HR522 := Lib.hid (HR515.out.below hb519)
            clear HR515
            clear hf518 hb519
            go_wp2_with fail
            refine (HciFacesOf.out am cm w127 (HR522.out.get am lm (by simp))).mono ?_
            rintro e w128 ⟨a523, c524, rfl, _, _, hf525, hb526⟩
            have HG527 := Lib.hid hf525.grid
            have HG528 := Lib.hid (HG520.out.below hb526)
            have hB529 : Below w.heap.size w w128 := hB521.trans (hb526.mono hB521.size)
            have HR530 := Lib.hid (HR522.out.below hb526)
            clear HR522
            clear hf525 hb526
            go_wp2_with fail
            refine (sameLists_eq a516 a523 c517 c524 Fa w128 HG528.out HG527.out (Nat.le_trans tFa (by decide))).mono ?_
            rintro e w129 ⟨rfl, hb531⟩
            have hB532 : Below w.heap.size w w129 := hB529.trans (hb531.mono hB529.size)
            have HR533 := Lib.hid (HR530.out.below hb531)
            clear HR530
            clear hb531
            go_wp2_with fail
            refine (HciGenusOf.out am cm w129 (HR533.out.get am lm (by simp))).mono ?_
            rintro e w130 ⟨rfl, hb534⟩
            have hB535 : Below w.heap.size w w130 := hB532.trans (hb534.mono hB532.size)
            have HR536 := Lib.hid (HR533.out.below hb534)
            clear HR533
            clear hb534
            go_wp2
            go_ret
            exact ⟨rfl, hB535⟩
      | true =>
        obtain ⟨hk4, hk5⟩ := HfCu.out rfl
        subst hk4
        go_wp2_with fail
        refine (HcGC.out a37 c38 w100 (HR416.out.get a37 Cu (by simp))).mono ?_
        rintro e w131 ⟨rfl, hb537⟩
        have hB538 : Below w.heap.size w w131 := hB415.trans (hb537.mono hB415.size)
        have HR539 := Lib.hid (HR416.out.below hb537)
        clear HR416
        clear hb537
        go_wp2_with fail
        refine (HcGS.out az cz w131 (HR539.out.get az lz (by simp))).mono ?_
        rintro e w132 ⟨rfl, hb540⟩
        have hB541 : Below w.heap.size w w132 := hB538.trans (hb540.mono hB538.size)
        have HR542 := Lib.hid (HR539.out.below hb540)
        clear HR539
        clear hb540
        go_wp2_with fail
        refine (HcCC.out a37 c38 w132 (HR542.out.get a37 Cu (by simp))).mono ?_
        rintro e w133 ⟨a543, c544, rfl, _, _, hf545, hb546⟩
        have HG547 := Lib.hid hf545.grid
        have hB548 : Below w.heap.size w w133 := hB541.trans (hb546.mono hB541.size)
        have HR549 := Lib.hid (HR542.out.below hb546)
        clear HR542
        clear hf545 hb546
        go_wp2_with fail
        refine (HcCS.out az cz w133 (HR549.out.get az lz (by simp))).mono ?_
        rintro e w134 ⟨a550, c551, rfl, _, _, hf552, hb553⟩
        have HG554 := Lib.hid hf552.grid
        have hB555 : Below w.heap.size w w134 := hB548.trans (hb553.mono hB548.size)
        have HR556 := Lib.hid (HR549.out.below hb553)
        clear HR549
        clear hf552 hb553
        cases Bo with
        | false =>
          go_wp2_with fail
          refine (HcsIsMap.out am cm w134 (HR556.out.get am lm (by simp))).mono ?_
          rintro e w135 ⟨rfl, hb557⟩
          have hB558 : Below w.heap.size w w135 := hB555.trans (hb557.mono hB555.size)
          have HR559 := Lib.hid (HR556.out.below hb557)
          clear HR556
          clear hb557
          cases Bm with
          | false =>
            obtain ⟨hk7, hk8⟩ := HfN.out rfl
            subst hk7
            subst hk8
            go_wp2_with fail
            refine (HciGenusOf.out am cm w135 (HR559.out.get am lm (by simp))).mono ?_
            rintro e w136 ⟨rfl, hb560⟩
            have hB561 : Below w.heap.size w w136 := hB558.trans (hb560.mono hB558.size)
            have HR562 := Lib.hid (HR559.out.below hb560)
            clear HR559
            clear hb560
            go_wp2
            go_ret
            exact ⟨rfl, hB561⟩
          | true =>
            obtain ⟨hk7, hk8, hk9, hk10, hk11⟩ := HfY.out rfl
            subst hk7
            subst hk8
            subst hk9
            subst hk10
            go_wp2_with fail
            refine (HcDD.out a49 c50 w135 (HR559.out.get a49 Du (by simp))).mono ?_
            rintro e w137 ⟨a563, c564, rfl, _, _, hf565, hb566⟩
            have hB567 : Below w.heap.size w w137 := hB558.trans (hb566.mono hB558.size)
            have HR568 := Lib.hid (Rows.cons (HR559.out.below hb566) hf565.row)
            clear HR559
            clear hf565 hb566
            go_wp2_with fail
            refine (sameInts_eq a563 am c564 cm lm w137 (HR568.out.get a563 lm (by simp)) (HR568.out.get am lm (by simp)) (Nat.le_trans hlm (by decide))).mono ?_
            rintro e w138 ⟨rfl, hb569⟩
            have hB570 : Below w.heap.size w w138 := hB567.trans (hb569.mono hB567.size)
            have HR571 := Lib.hid (HR568.out.below hb569)
            clear HR568
            clear hb569
            go_wp2_with fail
            refine (HcMM.out a55 c56 w138 (HR571.out.get a55 Mi (by simp))).mono ?_
            rintro e w139 ⟨a572, c573, rfl, _, _, hf574, hb575⟩
            have hB576 : Below w.heap.size w w139 := hB570.trans (hb575.mono hB570.size)
            have HR577 := Lib.hid (Rows.cons (HR571.out.below hb575) hf574.row)
            clear HR571
            clear hf574 hb575
            go_wp2_with fail
            refine (sameInts_eq a572 am c573 cm lm w139 (HR577.out.get a572 lm (by simp)) (HR577.out.get am lm (by simp)) (Nat.le_trans hlm (by decide))).mono ?_
            rintro e w140 ⟨rfl, hb578⟩
            have hB579 : Below w.heap.size w w140 := hB576.trans (hb578.mono hB576.size)
            have HR580 := Lib.hid (HR577.out.below hb578)
            clear HR577
            clear hb578
            go_wp2_with fail
            refine (HcGDu.out a49 c50 w140 (HR580.out.get a49 Du (by simp))).mono ?_
            rintro e w141 ⟨rfl, hb581⟩
            have hB582 : Below w.heap.size w w141 := hB579.trans (hb581.mono hB579.size)
            have HR583 := Lib.hid (HR580.out.below hb581)
            clear HR580
            clear hb581
            go_wp2_with fail
            refine (HciGenusOf.out am cm w141 (HR583.out.get am lm (by simp))).mono ?_
            rintro e w142 ⟨rfl, hb584⟩
            have hB585 : Below w.heap.size w w142 := hB582.trans (hb584.mono hB582.size)
            have HR586 := Lib.hid (HR583.out.below hb584)
            clear HR583
            clear hb584
            go_wp2_with fail
            refine (HcGMi.out a55 c56 w142 (HR586.out.get a55 Mi (by simp))).mono ?_
            rintro e w143 ⟨rfl, hb587⟩
            have hB588 : Below w.heap.size w w143 := hB585.trans (hb587.mono hB585.size)
            have HR589 := Lib.hid (HR586.out.below hb587)
            clear HR586
            clear hb587
            go_wp2_with fail
            refine (HciGenusOf.out am cm w143 (HR589.out.get am lm (by simp))).mono ?_
            rintro e w144 ⟨rfl, hb590⟩
            have hB591 : Below w.heap.size w w144 := hB588.trans (hb590.mono hB588.size)
            have HR592 := Lib.hid (HR589.out.below hb590)
            clear HR589
            clear hb590
            go_wp2_with fail
            refine (HcCD.out a49 c50 w144 (HR592.out.get a49 Du (by simp))).mono ?_
            rintro e w145 ⟨a593, c594, rfl, _, _, hf595, hb596⟩
            have HG597 := Lib.hid hf595.grid
            have hB598 : Below w.heap.size w w145 := hB591.trans (hb596.mono hB591.size)
            have HR599 := Lib.hid (HR592.out.below hb596)
            clear HR592
            clear hf595 hb596
            go_wp2_with fail
            refine (HciFacesOf.out am cm w145 (HR599.out.get am lm (by simp))).mono ?_
            rintro e w146 ⟨a600, c601, rfl, _, _, hf602, hb603⟩
            have HG604 := Lib.hid hf602.grid
            have HG605 := Lib.hid (HG597.out.below hb603)
            have hB606 : Below w.heap.size w w146 := hB598.trans (hb603.mono hB598.size)
            have HR607 := Lib.hid (HR599.out.below hb603)
            clear HR599
            clear hf602 hb603
            go_wp2_with fail
            refine (sameLists_eq a593 a600 c594 c601 Fa w146 HG605.out HG604.out (Nat.le_trans tFa (by decide))).mono ?_
            rintro e w147 ⟨rfl, hb608⟩
            have hB609 : Below w.heap.size w w147 := hB606.trans (hb608.mono hB606.size)
            have HR610 := Lib.hid (HR607.out.below hb608)
            clear HR607
            clear hb608
            go_wp2_with fail
            refine (HciGenusOf.out am cm w147 (HR610.out.get am lm (by simp))).mono ?_
            rintro e w148 ⟨rfl, hb611⟩
            have hB612 : Below w.heap.size w w148 := hB609.trans (hb611.mono hB609.size)
            have HR613 := Lib.hid (HR610.out.below hb611)
            clear HR610
            clear hb611
            go_wp2
            go_ret
            exact ⟨rfl, hB612⟩
        | true =>
          have hk6 := HfLs.out rfl
          go_wp2_with fail
          refine (HcGL.out a7 c8 w134 (HR556.out.get a7 Ls (by simp))).mono ?_
          rintro e w149 ⟨rfl, hb614⟩
          have hB615 : Below w.heap.size w w149 := hB555.trans (hb614.mono hB555.size)
          have HR616 := Lib.hid (HR556.out.below hb614)
          clear HR556
          clear hb614
          go_wp2_with fail
          refine (HcGD.out ad cd w149 (HR616.out.get ad ld (by simp))).mono ?_
          rintro e w150 ⟨rfl, hb617⟩
          have hB618 : Below w.heap.size w w150 := hB615.trans (hb617.mono hB615.size)
          have HR619 := Lib.hid (HR616.out.below hb617)
          clear HR616
          clear hb617
          go_wp2_with fail
          refine (HcsIsMap.out am cm w150 (HR619.out.get am lm (by simp))).mono ?_
          rintro e w151 ⟨rfl, hb620⟩
          have hB621 : Below w.heap.size w w151 := hB618.trans (hb620.mono hB618.size)
          have HR622 := Lib.hid (HR619.out.below hb620)
          clear HR619
          clear hb620
          cases Bm with
          | false =>
            obtain ⟨hk7, hk8⟩ := HfN.out rfl
            subst hk7
            subst hk8
            go_wp2_with fail
            refine (HciGenusOf.out am cm w151 (HR622.out.get am lm (by simp))).mono ?_
            rintro e w152 ⟨rfl, hb623⟩
            have hB624 : Below w.heap.size w w152 := hB621.trans (hb623.mono hB621.size)
            have HR625 := Lib.hid (HR622.out.below hb623)
            clear HR622
            clear hb623
            go_wp2
            go_ret
            exact ⟨rfl, hB624⟩
          | true =>
            obtain ⟨hk7, hk8, hk9, hk10, hk11⟩ := HfY.out rfl
            subst hk7
            subst hk8
            subst hk9
            subst hk10
            go_wp2_with fail
            refine (HcDD.out a49 c50 w151 (HR622.out.get a49 Du (by simp))).mono ?_
            rintro e w153 ⟨a626, c627, rfl, _, _, hf628, hb629⟩
            have hB630 : Below w.heap.size w w153 := hB621.trans (hb629.mono hB621.size)
            have HR631 := Lib.hid (Rows.cons (HR622.out.below hb629) hf628.row)
            clear HR622
            clear hf628 hb629
            go_wp2_with fail
            refine (sameInts_eq a626 am c627 cm lm w153 (HR631.out.get a626 lm (by simp)) (HR631.out.get am lm (by simp)) (Nat.le_trans hlm (by decide))).mono ?_
            rintro e w154 ⟨rfl, hb632⟩
            have hB633 : Below w.heap.size w w154 := hB630.trans (hb632.mono hB630.size)
            have HR634 := Lib.hid (HR631.out.below hb632)
            clear HR631
            clear hb632
            go_wp2_with fail
            refine (HcMM.out a55 c56 w154 (HR634.out.get a55 Mi (by simp))).mono ?_
            rintro e w155 ⟨a635, c636, rfl, _, _, hf637, hb638⟩
            have hB639 : Below w.heap.size w w155 := hB633.trans (hb638.mono hB633.size)
            have HR640 := Lib.hid (Rows.cons (HR634.out.below hb638) hf637.row)
            clear HR634
            clear hf637 hb638
            go_wp2_with fail
            refine (sameInts_eq a635 am c636 cm lm w155 (HR640.out.get a635 lm (by simp)) (HR640.out.get am lm (by simp)) (Nat.le_trans hlm (by decide))).mono ?_
            rintro e w156 ⟨rfl, hb641⟩
            have hB642 : Below w.heap.size w w156 := hB639.trans (hb641.mono hB639.size)
            have HR643 := Lib.hid (HR640.out.below hb641)
            clear HR640
            clear hb641
            go_wp2_with fail
            refine (HcGDu.out a49 c50 w156 (HR643.out.get a49 Du (by simp))).mono ?_
            rintro e w157 ⟨rfl, hb644⟩
            have hB645 : Below w.heap.size w w157 := hB642.trans (hb644.mono hB642.size)
            have HR646 := Lib.hid (HR643.out.below hb644)
            clear HR643
            clear hb644
            go_wp2_with fail
            refine (HciGenusOf.out am cm w157 (HR646.out.get am lm (by simp))).mono ?_
            rintro e w158 ⟨rfl, hb647⟩
            have hB648 : Below w.heap.size w w158 := hB645.trans (hb647.mono hB645.size)
            have HR649 := Lib.hid (HR646.out.below hb647)
            clear HR646
            clear hb647
            go_wp2_with fail
            refine (HcGMi.out a55 c56 w158 (HR649.out.get a55 Mi (by simp))).mono ?_
            rintro e w159 ⟨rfl, hb650⟩
            have hB651 : Below w.heap.size w w159 := hB648.trans (hb650.mono hB648.size)
            have HR652 := Lib.hid (HR649.out.below hb650)
            clear HR649
            clear hb650
            go_wp2_with fail
            refine (HciGenusOf.out am cm w159 (HR652.out.get am lm (by simp))).mono ?_
            rintro e w160 ⟨rfl, hb653⟩
            have hB654 : Below w.heap.size w w160 := hB651.trans (hb653.mono hB651.size)
            have HR655 := Lib.hid (HR652.out.below hb653)
            clear HR652
            clear hb653
            go_wp2_with fail
            refine (HcCD.out a49 c50 w160 (HR655.out.get a49 Du (by simp))).mono ?_
            rintro e w161 ⟨a656, c657, rfl, _, _, hf658, hb659⟩
            have HG660 := Lib.hid hf658.grid
            have hB661 : Below w.heap.size w w161 := hB654.trans (hb659.mono hB654.size)
            have HR662 := Lib.hid (HR655.out.below hb659)
            clear HR655
            clear hf658 hb659
            go_wp2_with fail
            refine (HciFacesOf.out am cm w161 (HR662.out.get am lm (by simp))).mono ?_
            rintro e w162 ⟨a663, c664, rfl, _, _, hf665, hb666⟩
            have HG667 := Lib.hid hf665.grid
            have HG668 := Lib.hid (HG660.out.below hb666)
            have hB669 : Below w.heap.size w w162 := hB661.trans (hb666.mono hB661.size)
            have HR670 := Lib.hid (HR662.out.below hb666)
            clear HR662
            clear hf665 hb666
            go_wp2_with fail
            refine (sameLists_eq a656 a663 c657 c664 Fa w162 HG668.out HG667.out (Nat.le_trans tFa (by decide))).mono ?_
            rintro e w163 ⟨rfl, hb671⟩
            have hB672 : Below w.heap.size w w163 := hB669.trans (hb671.mono hB669.size)
            have HR673 := Lib.hid (HR670.out.below hb671)
            clear HR670
            clear hb671
            go_wp2_with fail
            refine (HciGenusOf.out am cm w163 (HR673.out.get am lm (by simp))).mono ?_
            rintro e w164 ⟨rfl, hb674⟩
            have hB675 : Below w.heap.size w w164 := hB672.trans (hb674.mono hB672.size)
            have HR676 := Lib.hid (HR673.out.below hb674)
            clear HR673
            clear hb674
            go_wp2
            go_ret
            exact ⟨rfl, hB675⟩

set_option maxRecDepth 100000 in
theorem contract (H : Type) (enc : TypeId × Value → H) (W : World) (base : Nat) (args : Array Value) (ds gs : List (DataW H)) (before : List MemPlace)
    (hval : ∀ (j : Nat) t v, Try.f13.params[j]? = some t → args[j]? = some v → Value.okWide Try.prog W .any base t v)
    (hW : DataW.Whole enc Try.prog Try.f13.params.toList Rows.fnMapsSpec.vars false W args.toList ds gs before) :
    Calls Try.prog 13 args W fun e W' => ∃ v, e = .returned v ∧ Rows.fnMapsSpec.post enc Try.prog Try.f13 false true false false W args v W' := by
  have hW' := hW
  obtain ⟨p, q, hA0, hV, rfl, hfz, hnd⟩ := hW
  have hA : DataW.TrodAll enc Try.prog W 0 (fun _ => true) true Try.f13.params.toList args.toList ds p := hA0
  rw [Try.params13] at hA hval
  obtain ⟨v0, vs0, d0, ds0, p0, q0, hargs, rfl, rfl, h0, r0⟩ := trodAll_cons hA
  obtain ⟨rfl, rfl, rfl⟩ := trodAll_nil r0
  obtain rfl : args = #[v0] := by cases args; simp_all
  obtain ⟨rfl, rfl⟩ := trodVars_none hV
  have k0 := h0
  obtain ⟨acode, ccode, lcode, rfl, wcode⟩ := Read.bytes_of (hval 0 37 v0 rfl rfl) h0
  clear hA0
  simp only [List.append_nil] at hW'
  refine (law acode ccode lcode W wcode).mono fun e W' ⟨he, hg⟩ => ?_
  subst he
  exact ⟨_, rfl, post_of_below (pv := []) hW' (fun _ _ _ => trodAll_cons_mk (shut_bool Try.underlying4 _) trodAll_mk0)
    (fun sp hs => trodAll_cons_mk (trod_keeps (t := 37) (by kernel_rfl) (by kernel_rfl) (by kernel_rfl) k0 hg (fun x hx => hW'.lt x (by simp_all)) (fun x hx => hs x (by simp_all))) (trodAll_mk0))
    (fun _ _ => rfl) (by simp) hg (ok_one (by kernel_rfl) rfl (okWide_bool_mk Try.underlying4 _))⟩

theorem reads (os : Os) {H : Type} (enc : TypeId × Value → H) : ∃ places, DataW.whole enc Try.prog ((World.holding Try.prog os ⟨#[], #[], []⟩).forCall (fun _ _ => 0) ⟨#[], #[.slice none 0 0], []⟩).memory Try.f13.params.toList Rows.fnMapsSpec.vars false (#[.slice none 0 0] : Array Value).toList 8 = some ([.nil], [], places) :=
  ⟨[], by kernel_rfl⟩

set_option maxRecDepth 100000 in
theorem lifted (os : Os) (started : os.Started) (H : Type) (enc : TypeId × Value → H) (F : Stop.Interp) :
    ReturnsInHanded {} Try.checked os 13 .any ((OpenSpec.ofChange Rows.fnMapsSpec).preRow enc Try.prog Try.f13 Rows.fnMapsRow.domain false Rows.fnMapsRow.laid) (((OpenSpec.ofChange Rows.fnMapsSpec).at F).post enc Try.prog Try.f13 false true false false) := by
  obtain ⟨places, hx⟩ := reads os enc
  refine returnsInHanded_of_row (C := Try.checked) (s := OpenSpec.ofChange Rows.fnMapsSpec) Low.own started (by kernel_rfl) Try.func13
    (witness_row_at (enc := enc) (C := Try.checked) false (World.holding Try.prog os ⟨#[], #[], []⟩) #[.slice none 0 0] rfl (by kernel_rfl) (by kernel_rfl) (by kernel_rfl)
      (OpenSpec.preRow_of_cond 8 hx (by kernel_rfl) (fun k hk => by cases hk) (by kernel_rfl) (laidMet_nil _ _))) ?_
  intro W base args ds gs before hval hW _ _ _ hL hShaped _
  exact contract H enc W base args ds gs before hval hW 

theorem said : Rows.FnMapsSaid :=
  OpenClaim.holds_of_cond 13 Try.f13 rfl rfl rfl rfl rfl rfl rfl ⟨rfl, rfl, rfl, rfl, rfl⟩ rfl rfl rfl rfl rfl (by kernel_rfl) Try.func13 (by kernel_rfl)
    (of_decide_eq_true (by kernel_rfl)) (by unfold Func.isWrapper; first | (rw [if_pos (by decide +kernel)]; kernel_rfl) | (rw [if_neg (by decide +kernel)]; exact ⟨rfl, rfl⟩))
    (fun os started H enc _ F => by rw [OpenClaim.pre_eq_preRow]; exact lifted os started H enc F)
end Go.Proofs.Ytjpafacldcnboaa.fnMaps
