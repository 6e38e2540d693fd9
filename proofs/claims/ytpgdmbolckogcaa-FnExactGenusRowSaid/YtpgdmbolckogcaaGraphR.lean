/-
  The walks of the model's GenusRow and LeastGenus.
-/
import Derived.Test.YtpgdmbolckogcaaBase
import Derived.Test.YtpgdmbolckogcaaSlice
import Derived.Test.YtpgdmbolckogcaaIntRow
import Derived.Test.YtpgdmbolckogcaaInts
import Derived.Test.YtpgdmbolckogcaaOwn
import Derived.Test.YtpgdmbolckogcaaGrid
import Derived.Test.YtpgdmbolckogcaaGridRows
import Derived.Test.YtpgdmbolckogcaaClass
import Derived.Test.YtpgdmbolckogcaaLab
import Derived.Test.YtpgdmbolckogcaaMap
import Derived.Test.YtpgdmbolckogcaaMapB
import Derived.Test.YtpgdmbolckogcaaMapD
import Derived.Test.YtpgdmbolckogcaaMapF
import Derived.Test.YtpgdmbolckogcaaGraph
import Derived.Test.YtpgdmbolckogcaaGraphA2
import Derived.Test.YtpgdmbolckogcaaGraphRot
import Derived.Test.YtpgdmbolckogcaaGraphEn
import Derived.Test.YtpgdmbolckogcaaGraphB
import Derived.Test.YtpgdmbolckogcaaGraphD
import Derived.Test.YtpgdmbolckogcaaGraphE
import Derived.Test.YtpgdmbolckogcaaGraphF
import Derived.Test.YtpgdmbolckogcaaGraphP
import Derived.Test.YtpgdmbolckogcaaGraphQ
import Derived.Test.YtpgdmbolckogcaaGraphO
import Derived.Test.YtpgdmbolckogcaaGraphV
import Derived.Deep.QuietTactic
import Derived.BigQuiet
namespace Go.Proofs.Ytpgdmbolckogcaa
open Go.RowKit

theorem RStep.of_append {B g : Nat} {w w3 : World} {rv v3 : Value} {o : Obj} (hg : (w.alloc o).grownBy w3 rv.ownBlock) (hn : v3.ownBlock = rv.ownBlock ∨ v3.ownBlock = some (w.alloc o).heap.size) : RStep B g w rv w3 v3 := by
  have hs : (w.alloc o).heap.size = w.heap.size + 1 := by simp
  have h1 := hg.size
  refine ⟨⟨hg.os, hg.tape, hg.output, by omega, fun k hk _ _ kr => ?_⟩, ?_⟩
  · rw [hg.block k (by omega) kr, Below.heap_alloc w o k hk]
  · rcases hn with e | e
    · exact Or.inl e
    · right; intro k hk; rw [e] at hk; cases hk; omega
theorem RStep.of_set {B g r i n cap : Nat} {w : World} {x : Value} : RStep B g w (.slice (some ⟨r, 0, none⟩) n cap) (w.setCell ⟨r, i, none⟩ x) (.slice (some ⟨r, 0, none⟩) n cap) :=
  ⟨⟨rfl, rfl, rfl, by simp [World.setCell], fun k _ _ _ kr => Below.heap_setCell w ⟨r, i, none⟩ x k (fun e => kr (by rw [e]; rfl))⟩, Or.inl rfl⟩
theorem RStep.gridIn {B g lo hi : Nat} {w w' : World} {rv rv' : Value} {a : Option Addr} {L : List (List Int)} (h : RStep B g w rv w' rv') (hg : GridIn w lo hi a L) (ho : ∀ k, lo ≤ k → k < hi → k ≠ B ∧ k ≠ g ∧ rv.ownBlock ≠ some k) : GridIn w' lo hi a L := by
  have hrow : ∀ {t : TypeId} {a : Option Addr} {cs : List Value}, RowIn w lo hi t a cs → RowIn w' lo hi t a cs := fun hr => by
    rcases hr with hr | ⟨b, o, all, rfl, h1, h2, hk, hc⟩
    · exact Or.inl hr
    · obtain ⟨k1, k2, k3⟩ := ho b h1 h2
      exact Or.inr ⟨b, o, all, rfl, h1, h2, h.blk hk k1 k2 k3, hc⟩
  obtain ⟨hs, e, h3, h4, h5⟩ := hg
  exact ⟨hs, e, hrow h3, fun x hx => hrow (h4 x hx), h5⟩
theorem GridIn.get {w : World} {lo hi : Nat} {a : Option Addr} {L : List (List Int)} (h : GridIn w lo hi a L) {i : Nat} {r : List Int} (hi' : L[i]? = some r) : ∃ b o ai ci, a = some ⟨b, o, none⟩ ∧ w.cell? ⟨b, o + i, none⟩ = some (.slice ai r.length ci) ∧ RowIn w lo hi 3 ai (intCells r) := by
  obtain ⟨hs, rfl, h2, h3, _⟩ := h
  obtain ⟨h5, rfl⟩ := List.getElem?_eq_some_iff.1 hi'
  have h6 : i < hs.length := by simpa using h5
  obtain ⟨b, o, rfl, hb, hc⟩ := h2.row.at (i := i) (by rw [hdCells_len]; exact h6)
  have hm := List.getElem_mem h6
  refine ⟨b, o, hs[i].a, hs[i].c, rfl, ?_, ?_⟩
  · rw [hc i _ (hdCells_get h6)]; simp [Hd.val]
  · have := h3 _ hm; simpa using this

/-- What lies in memory while the model goes through the rotations. -/
structure MInv (w0 : World) (N gm cap n : Nat) (mf : Nat → Nat) (gs : List Nat) (rv : Value) (w : World) : Prop where
  map : w.ownsRow N 3 1 (.slice (some ⟨gm, 0, none⟩) n cap) n (intCells (Cls.row mf n))
  own : w.ownsRow N 3 1 rv (Gr.hist gs).length (intCells (intsOf (Gr.hist gs)))
  off : rv.ownBlock ≠ some gm
  bel : Below N w0 w
  few : ∀ x ∈ gs, x ≤ 100
theorem MInv.next {w0 w w' : World} {N gm cap n : Nat} {mf : Nat → Nat} {gs : List Nat} {rv : Value} (h : MInv w0 N gm cap n mf gs rv w) (hb : Below w.heap.size w w') (hN : N ≤ w.heap.size) : MInv w0 N gm cap n mf gs rv w' :=
  ⟨own_keep h.map hb (fun k hk => (h.map.lt k hk).2), own_keep h.own hb (fun k hk => (h.own.lt k hk).2), h.off, h.bel.trans (hb.mono hN), h.few⟩
theorem MInv.turn {w0 w w' : World} {N gm cap n : Nat} {mf mf' : Nat → Nat} {gs : List Nat} {rv : Value} (h : MInv w0 N gm cap n mf gs rv w) (hm : w'.ownsRow N 3 1 (.slice (some ⟨gm, 0, none⟩) n cap) n (intCells (Cls.row mf' n))) (hg : w.grownBy w' (some gm)) (hN : N ≤ w.heap.size) : MInv w0 N gm cap n mf' gs rv w' :=
  ⟨hm, own_grown h.own hg (fun k hk e => h.off (by rw [hk, e])), h.off, h.bel.grown hg hN (fun k hk => by cases hk; exact (h.map.lt gm rfl).1), h.few⟩

set_option maxRecDepth 10000 in
set_option maxHeartbeats 8000000 in
theorem spec_l7Count (w0 : World) (L : List (List Int)) (gm cap n c : Nat) (a : Option Addr) (hGr : GridAt w0 a L) (hG : Gr.IsG L) (hn : n = 2 * L.length) (h7 : ∀ v, v < 7 → (Gr.at7 (Gr.vx L) n v).length ≤ 7) :
    ∀ (k v : Nat) (zv : Int) (mf : Nat → Nat) (gs : List Nat) (rv : Value) (w : World), zv = ((v : Nat) : Int) → v + k = 7 → MInv w0 w0.heap.size gm cap n mf gs rv w → Gr.Good (Gr.vx L) n v mf →
      gs.length + (Gr.byVertex (Gr.vx L) n k v mf).length ≤ 2432902008176640000 →
      Calls Try.prog 48 #[.slice a L.length c, .int .i64 zv, .slice (some ⟨gm, 0, none⟩) n cap, rv] w fun e w' =>
        ∃ rv' mf', e = .returned rv' ∧ MInv w0 w0.heap.size gm cap n mf' (gs ++ (Gr.byVertex (Gr.vx L) n k v mf).map (Gr.genN n)) rv' w' ∧ RStep gm gm w rv w' rv' ∧ ∀ d, d < n → Gr.vx L d < v → mf' d = mf d := by
  have hn1 : 2 ≤ n := by have := hG.2.1; omega
  have hn2 : n ≤ 24 := by have := hG.2.2; omega
  have hn3 : n % 2 = 0 := by omega
  have hux : ∀ d, d < n → Gr.vx L d < 7 := fun d hd => Gr.vx_lt hG (by omega)
  have Hn := Lib.hid hn; have HG := Lib.hid hG; have HGr := Lib.hid hGr; have H7 := Lib.hid h7; have Hux := Lib.hid hux
  clear hn hG hGr h7 hux
  obtain ⟨i0, hi0, hz0, hz1, hz2⟩ := info_int_parts
  have Hi0 := Lib.hid hi0; have Hz0 := Lib.hid hz0; have Hz1 := Lib.hid hz1; have Hz2 := Lib.hid hz2
  clear hi0 hz0 hz1 hz2
  intro k
  induction k with
  | zero =>
    intro v zv mf gs rv w hzv hvk hI hgood hcnt
    obtain rfl : v = 7 := by omega
    have hq : (zv == 7) = true := by rw [hzv]; rfl
    have hper := hgood.per Hux.out
    have hM := Gr.isM_row hper hn1 hn2 hn3
    have hgen := spec_l6Genus (some ⟨gm, 0, none⟩) cap (Cls.row mf n) w (MapAt.row hI.map) hM
    rw [Cls.row_len, Gr.genus_row hper hn1 hn2 hn3] at hgen
    have hG1 := Gr.genN_small hper hn1 hn2 hn3
    have hcnt1 : (Gr.byVertex (Gr.vx L) n 0 7 mf).map (Gr.genN n) = [Gr.genN n mf] := rfl
    rw [hcnt1]
    have hR : ∀ x ∈ Gr.hist gs, x < 9000000000000000000 := fun x hx => by have := Gr.hist_le gs x hx; omega
    have hRl := Gr.hist_most hI.few
    have hend : Gr.hist (gs ++ [Gr.genN n mf]) = Gr.count (Gr.hist gs) (Gr.genN n mf) := Gr.hist_snoc _ _
    have hN := hI.bel.size
    generalize hGd : Gr.genN n mf = G at *
    have Hgen := Lib.hid hgen; have HI := Lib.hid hI; have HR := Lib.hid hR; have Hend := Lib.hid hend
    clear hgen hI hR hend hGd hM hper hgood hcnt hcnt1 hzv hvk
    generalize hRd : Gr.hist gs = R at *
    have HRd := Lib.hid hRd
    clear hRd
    obtain ⟨av0, cv0, rfl⟩ := own_len HI.out.own
    rw [HRd.out]
    go_enter Try.func48, Try.ntmps48
    go_wp2_with fail
    refine Hgen.out.mono ?_
    rintro e w1 ⟨rfl, hb1⟩
    have HI1 := Lib.hid (HI.out.next hb1 hN)
    have HS1 := Lib.hid (RStep.of_below (B := gm) (g := gm) (.slice av0 R.length cv0) hb1)
    have hN1 : w0.heap.size ≤ w1.heap.size := Nat.le_trans hN hb1.size
    have hown1 := HI1.out.own
    rw [HRd.out] at hown1
    have hoff1 := HI1.out.off
    rw [HRd.out] at hoff1
    have Hown1 := Lib.hid hown1; have Hoff1 := Lib.hid hoff1
    have Hmap1 := Lib.hid HI1.out.map
    have Hfew := Lib.hid HI1.out.few
    have Hbel1 := Lib.hid HI1.out.bel
    clear hb1 hown1 hoff1 HI1
    go_wp2
    go_loopw [3] (fun rvv wr => ∃ j, (j = 0 ∨ R.length + j ≤ G + 1) ∧ w0.heap.size ≤ wr.heap.size ∧ (∃ a1 c1, rvv = .slice a1 (R.length + j) c1) ∧ Hid (wr.ownsRow w0.heap.size 3 1 rvv (R.length + j) (intCells (intsOf (R ++ List.replicate j 0)))) ∧ Hid (RStep gm gm w1 (.slice av0 R.length cv0) wr rvv) ∧ Hid (Below w0.heap.size w0 wr) ∧ Hid (wr.ownsRow w0.heap.size 3 1 (.slice (some ⟨gm, 0, none⟩) n cap) n (intCells (Cls.row mf n)) ∧ rvv.ownBlock ≠ some gm)) (fun rvv _ => G + 1 - vLen rvv)
    case atStart => exact ⟨0, Or.inl rfl, hN1, ⟨_, _, rfl⟩, by rw [List.replicate_zero, List.append_nil]; exact Hown1, Lib.hid (RStep.refl _ _ _ _), Hbel1, Lib.hid ⟨Hmap1.out, Hoff1.out⟩⟩
    case round =>
      obtain ⟨j, hj, hN2, ⟨a1, c1, rfl⟩, hown, hstep, hbel, hmo⟩ := hrel
      by_cases hlt : R.length + j ≤ G
      · have d1 : ((R.length : Int) + (j : Int)) ≤ (G : Int) := by omega
        have d2 : ((R.length + j : Nat) : Int) ≤ (G : Int) := by omega
        have hm1 : R.length + j + 1 ≤ maxLen := by unfold maxLen; omega
        have hm2 : (R.length + j + 1) * 8 ≤ 140737488355328 := by omega
        have hown2 := hown.out
        have Hlt := Lib.hid hlt
        clear hlt
        go_wp2_with (at_builtin; refine append_one_new rfl (.tmp 20) (.tmp 21) 27 rfl w0.heap.size 3 i0 _ 8 Try.underlying27 Hi0.out Hz0.out Hz1.out Hz2.out (by rfl) _ _ _ rfl hown2 (by rfl) _ rfl hm1 hm2 hN2 ?_; intro v3 w3 hown3 hg3 hn3; obtain ⟨a3, c3, rfl⟩ := own_len hown3)
        have hs : (wr.alloc (.cells #[.int .i64 0] 3)).heap.size = wr.heap.size + 1 := by simp
        have hN3 : w0.heap.size ≤ w3.heap.size := by have := hg3.size; omega
        have Hs3 := Lib.hid (hstep.out.trans (RStep.of_append hg3 hn3))
        have Hb3 := Lib.hid ((hbel.out.alloc hN2 _).grown hg3 (by omega) (fun k hk => (hown.out.lt k hk).1))
        have Ho3 := Lib.hid hown3
        have Hmo3 : Hid (w3.ownsRow w0.heap.size 3 1 (.slice (some ⟨gm, 0, none⟩) n cap) n (intCells (Cls.row mf n)) ∧ (Value.slice a3 (R.length + j + 1) c3).ownBlock ≠ some gm) := Lib.hid ⟨(hmo.out.1.alloc _).kept hg3 (Or.inr (fun e => hmo.out.2 e.symm)), fun e => by
          rcases hn3 with h | h
          · exact hmo.out.2 (h.symm.trans e)
          · have h1 := Option.some.inj (h.symm.trans e); have := (hmo.out.1.lt gm rfl).2; omega⟩
        clear hown3 hg3 hn3 hs
        go_roundw
        case rel => exact ⟨j + 1, Or.inr (by have := Hlt.out; omega), hN3, ⟨_, _, rfl⟩, Lib.hid (by rw [List.replicate_succ', ← List.append_assoc, show intsOf (R ++ List.replicate j 0 ++ [0]) = intsOf (R ++ List.replicate j 0) ++ [0] from by simp [intsOf], ← intCells_snoc]; exact Ho3.out), Hs3, Hb3, Hmo3⟩
        case measure => have := Hlt.out; simp only [vLen]; omega
      · have d1 : ¬ ((R.length : Int) + (j : Int)) ≤ (G : Int) := by omega
        have d2 : ¬ ((R.length + j : Nat) : Int) ≤ (G : Int) := by omega
        have hjj : j = G + 1 - R.length := by omega
        have hlen : (R ++ List.replicate j 0).length = R.length + j := by simp
        have hlt2 : G < (R ++ List.replicate j 0).length := by omega
        obtain ⟨g1, cap1, e1, _, _⟩ := own_form hown.out (by omega)
        cases e1
        obtain ⟨x, hxd⟩ : ∃ x, (R ++ List.replicate j 0).getD G 0 = x := ⟨_, rfl⟩
        have hx : (R ++ List.replicate j 0)[G]? = some x := by rw [← hxd, List.getD_eq_getElem?_getD, List.getElem?_eq_getElem hlt2]; rfl
        have hsm : x < 9000000000000000000 := by
          have hm := get_mem hx
          rcases List.mem_append.1 hm with h | h
          · exact HR.out _ h
          · rw [(List.mem_replicate.1 h).2]; decide
        have hcx := hown.out.cellAt G (by omega)
        rw [natCells_get hx] at hcx
        have hfz := hown.out.frozenAt G
        have hset := (hown.out.stored G (.int .i64 ((x + 1 : Nat) : Int))).1
        have hcount : (R ++ List.replicate j 0).set G (x + 1) = Gr.count R G := by unfold Gr.count; rw [← hjj, hxd]
        have hcl : (Gr.count R G).length = R.length + j := by rw [← hcount, List.length_set, hlen]
        rw [show (intCells (intsOf (R ++ List.replicate j 0))).set G (.int .i64 ((x + 1 : Nat) : Int)) = intCells (intsOf ((R ++ List.replicate j 0).set G (x + 1))) from by simp [intCells, intsOf, List.map_set], hcount, show ((x + 1 : Nat) : Int) = (x : Int) + 1 by omega] at hset
        have Hset := Lib.hid hset
        have hst2 : RStep gm gm w1 (.slice av0 R.length cv0) (wr.setCell ⟨g1, G, none⟩ (.int .i64 ((x : Int) + 1))) (.slice (some ⟨g1, 0, none⟩) (R.length + j) c1) := hstep.out.trans RStep.of_set
        have hgm : g1 ≠ gm := fun h => hmo.out.2 (by rw [h]; rfl)
        have hmapw := hmo.out.1
        have hfin : MInv w0 w0.heap.size gm cap n mf (gs ++ [G]) (.slice (some ⟨g1, 0, none⟩) (R.length + j) c1) (wr.setCell ⟨g1, G, none⟩ (.int .i64 ((x : Int) + 1))) :=
          ⟨own_grown hmapw (g := g1) (only_setCell (World.grownBy.refl _ _) (Or.inl rfl) _) (fun k hk => by cases hk; exact Ne.symm hgm), by rw [Hend.out, hcl]; exact Hset.out, fun e => hgm (by cases e; rfl), hbel.out.setCell (hown.out.lt g1 rfl).1 _, fun y hy => by
            rcases List.mem_append.1 hy with hy | hy
            · exact Hfew.out y hy
            · rw [List.mem_singleton.1 hy]; exact hG1⟩
        have Hfin := Lib.hid hfin; have Hst2 := Lib.hid (HS1.out.trans hst2)
        have k0 : (0 : Int) ≤ (G : Int) := by omega
        have k1 : (G : Int) < ((R.length + j : Nat) : Int) := by omega
        have hnm : R.length + j ≤ 400 := by omega
        clear hset hcount hx hxd hlt hlt2 hjj hj hlen hst2 hfin hmapw hcl Hset
        generalize R.length + j = m at *
        go_wp2
        go_ret
        exact ⟨_, rfl, mf, Hfin.out, Hst2.out, fun _ _ _ => rfl⟩
  | succ k ih =>
    intro v zv mf gs rv w hzv hvk hI hgood hcnt
    have hv7 : v < 7 := by omega
    have hq : (zv == 7) = false := beq_eq_false_iff_ne.2 (by omega)
    have hl7 := H7.out v hv7
    have hD := spec_l7Darts a c L v w (HGr.out.below hI.bel) HG.out (by omega)
    rw [← Hn.out, ← hzv] at hD
    have hO := fun a' c' W (h : RowAt W a' (intCells (intsOf (Gr.at7 (Gr.vx L) n v)))) => spec_l7Orders a' c' (Gr.at7 (Gr.vx L) n v) W h hl7
    have hend := Gr.vpre_end (Gr.vx L) n k v mf
    rw [← hend] at hcnt ⊢
    have hmem : ∀ o ∈ Gr.orders (Gr.at7 (Gr.vx L) n v), (∀ x ∈ o, x < n) ∧ o.length ≤ 7 ∧ o.Nodup ∧ ∀ d, d < n → Gr.vx L d = v → d ∈ o := fun o ho => by
      have hp := Gr.orders_perm ho
      refine ⟨fun x hx => (Gr.at7_mem.1 (hp.mem_iff.1 hx)).1, by rw [hp.length_eq]; exact hl7, hp.nodup_iff.2 (Gr.at7_nodup _ _ _), fun d hd he => hp.mem_iff.2 (Gr.at7_mem.2 ⟨hd, he⟩)⟩
    have hmem2 : ∀ o ∈ Gr.orders (Gr.at7 (Gr.vx L) n v), ∀ d ∈ o, Gr.vx L d = v := fun o ho d hd => (Gr.at7_mem.1 ((Gr.orders_perm ho).mem_iff.1 hd)).2
    have hgst := fun (m : Nat → Nat) (hm : ∀ d, d < n → Gr.vx L d < v → m d = mf d) o (ho : o ∈ Gr.orders (Gr.at7 (Gr.vx L) n v)) => (hgood.congr hm).step ho
    have hln : (intsOf (Gr.at7 (Gr.vx L) n v)).length = (Gr.at7 (Gr.vx L) n v).length := intsOf_len _
    have hnum := (Gr.ordTo_len (Gr.at7 (Gr.vx L) n v) (Gr.at7 (Gr.vx L) n v).length (Nat.le_refl _)).2
    have hO5 : (Gr.orders (Gr.at7 (Gr.vx L) n v)).length ≤ 5040 := Nat.le_trans hnum (Nat.le_trans (Gr.fac_mono hl7) (by decide +kernel))
    have hN := hI.bel.size
    generalize Gr.at7 (Gr.vx L) n v = l at *
    generalize Gr.orders l = O at *
    have hcong := fun (m : Nat → Nat) (hm : ∀ d, d < n → Gr.vx L d < v → m d = mf d) o (ho : o ∈ O) => (show (Gr.byVertex (Gr.vx L) n k (v + 1) (Gr.ringF m o)).map (Gr.genN n) = (Gr.byVertex (Gr.vx L) n k (v + 1) (Gr.ringF mf o)).map (Gr.genN n) from
      Gr.byVertex_congr (Gr.genN_congr hn3) k (v + 1) _ _ (fun d hd => by have := Hux.out d hd; omega) (fun d hd hdv => by
        by_cases e : d ∈ o
        · exact Gr.ringF_in (hmem o ho).2.2.1 e
        · rw [Gr.ringF_out e, Gr.ringF_out e]
          refine hm d hd ?_
          rcases Nat.lt_or_ge (Gr.vx L d) v with h | h
          · exact h
          · exact absurd ((hmem o ho).2.2.2 d hd (by omega)) e))
    have hcnti := fun i o (m : Nat → Nat) (hm : ∀ d, d < n → Gr.vx L d < v → m d = mf d) (ho : O[i]? = some o) => (show (gs ++ (Gr.vpre (Gr.vx L) n k v i mf O).map (Gr.genN n)).length + (Gr.byVertex (Gr.vx L) n k (v + 1) (Gr.ringF m o)).length ≤ 2432902008176640000 by
      have h1 := Gr.vpre_step (u := Gr.vx L) (n := n) (k := k) (v := v) (m := mf) ho
      have h2 := Gr.vpre_len (u := Gr.vx L) (n := n) (k := k) (v := v) (i := i + 1) (m := mf) (O := O)
      have h3 := congrArg List.length (hcong m hm o (get_mem ho))
      rw [List.length_map, List.length_map] at h3
      rw [h1, List.length_append] at h2
      rw [List.length_append, List.length_map, h3]
      omega)
    have hstep := fun i o (m : Nat → Nat) (hm : ∀ d, d < n → Gr.vx L d < v → m d = mf d) (ho : O[i]? = some o) => (show gs ++ (Gr.vpre (Gr.vx L) n k v (i + 1) mf O).map (Gr.genN n) = gs ++ (Gr.vpre (Gr.vx L) n k v i mf O).map (Gr.genN n) ++ (Gr.byVertex (Gr.vx L) n k (v + 1) (Gr.ringF m o)).map (Gr.genN n) by
      rw [Gr.vpre_step ho, List.map_append, List.append_assoc, hcong m hm o (get_mem ho)])
    have hih := fun (m : Nat → Nat) gs' rv' W (h : MInv w0 w0.heap.size gm cap n m gs' rv' W) hg hc => ih (v + 1) (zv + 1) m gs' rv' W (by omega) (by omega) h hg hc
    have HD := Lib.hid hD; have HO := Lib.hid hO; have Hmem := Lib.hid hmem; have Hmem2 := Lib.hid hmem2; have Hgst := Lib.hid hgst; have Hcnt := Lib.hid hcnti; have Hstep := Lib.hid hstep; have Hih := Lib.hid hih; have HI := Lib.hid hI
    have hz7 : zv ≤ 7 := by omega
    have hz0 : 0 ≤ zv := by omega
    clear hD hO hmem hmem2 hgst hcnti hstep hih ih hcong hI hgood hcnt hend hnum hzv
    obtain ⟨av0, cv0, rfl⟩ := own_len HI.out.own
    go_enter Try.func48, Try.ntmps48
    go_wp2_with fail
    refine HD.out.mono ?_
    rintro e w2 hg2
    obtain ⟨a2, c2, rfl, _, _, hf2, hb2⟩ := hg2
    rw [hln]
    have HO2 := Lib.hid (HO.out a2 c2 w2 hf2.row)
    have hs2 := hb2.size
    have HI2 := Lib.hid (HI.out.next hb2 hN)
    have HS2 := Lib.hid (RStep.of_below (B := gm) (g := gm) (.slice av0 (Gr.hist gs).length cv0) hb2)
    clear hf2 hb2
    go_wp2_with fail
    refine HO2.out.mono ?_
    rintro e w3 hg3
    obtain ⟨a3, c3, rfl, _, _, hgr3, hb3⟩ := hg3
    rw [Mp.natRows_len]
    have HI3 := Lib.hid (HI2.out.next hb3 (Nat.le_trans hN hs2))
    have HS3 := Lib.hid (HS2.out.trans (RStep.of_below (.slice av0 (Gr.hist gs).length cv0) hb3))
    have Hgr3 := Lib.hid hgr3
    have hoff3 : ∀ q, w2.heap.size ≤ q → q < w3.heap.size → q ≠ gm ∧ q ≠ gm ∧ (Value.slice av0 (Gr.hist gs).length cv0).ownBlock ≠ some q := fun q h1 h2 => by
      have := (HI.out.map.lt gm rfl).2
      refine ⟨by omega, by omega, fun e => ?_⟩
      have := (HI.out.own.lt q e).2; omega
    have Hoff3 := Lib.hid hoff3
    have hgmlt : gm < w2.heap.size := by have := (HI.out.map.lt gm rfl).2; omega
    clear hgr3 hb3 hoff3
    go_wp2
    go_loopw [3, 11] (fun rvv iv wr => ∃ i : Nat, i ≤ O.length ∧ iv = .int .i64 i ∧ ∃ mi, Hid (MInv w0 w0.heap.size gm cap n mi (gs ++ (Gr.vpre (Gr.vx L) n k v i mf O).map (Gr.genN n)) rvv wr) ∧ Hid (RStep gm gm w3 (.slice av0 (Gr.hist gs).length cv0) wr rvv) ∧ Hid (∀ d, d < n → Gr.vx L d < v → mi d = mf d)) (fun _ iv _ => O.length - (intOf iv).toNat)
    case atStart => exact ⟨0, Nat.zero_le _, rfl, mf, Lib.hid (by have h := HI3.out; simpa [Gr.vpre] using h), Lib.hid (RStep.refl _ _ _ _), Lib.hid fun _ _ _ => rfl⟩
    case round =>
      obtain ⟨i, hi, rfl, mi, hIr, hSr, hag⟩ := hrel
      by_cases hlt : i < O.length
      · obtain ⟨o, ho⟩ := get_some hlt
        have hgw := hSr.out.gridIn Hgr3.out Hoff3.out
        obtain ⟨b, ob, ai, ci, rfl, hcell, hrin⟩ := hgw.get (natRows_get ho)
        rw [intsOf_len] at hcell
        obtain ⟨m1, m2, m3, _⟩ := Hmem.out o (get_mem ho)
        have hNr := hIr.out.bel.size
        have hoffr : OffRow ai gm ∨ o = [] := by
          rcases hrin with h | ⟨g2, o2, all, rfl, h1, _⟩
          · right; simpa [intCells, intsOf] using h
          · left; intro b' o' e; cases e; omega
        have hR : Calls Try.prog 44 #[.slice (some ⟨gm, 0, none⟩) n cap, .slice ai o.length ci] wr fun e w' => e = .returned (.tuple #[]) ∧ w'.ownsRow w0.heap.size 3 1 (.slice (some ⟨gm, 0, none⟩) n cap) n (intCells (Cls.row (Gr.ringF mi o) n)) ∧ wr.grownBy w' (some gm) := by
          rcases hoffr with h | h
          · exact spec_l7Ring w0.heap.size gm cap n ci ai mi o wr hIr.out.map hrin.row h m1 (by omega) (by omega)
          · subst h; exact spec_l7Ring0 w0.heap.size gm cap n ci ai mi wr hIr.out.map
        have HR := Lib.hid hR
        have Hgood := Lib.hid (Hgst.out mi hag.out o (get_mem ho))
        have Hc := Lib.hid (Hcnt.out i o mi hag.out ho)
        have Hs := Lib.hid (Hstep.out i o mi hag.out ho)
        have Hag := Lib.hid (fun (m' : Nat → Nat) (hm' : ∀ d, d < n → Gr.vx L d < v + 1 → m' d = Gr.ringF mi o d) => (show ∀ d, d < n → Gr.vx L d < v → m' d = mf d from fun d hd hdv => by
          rw [hm' d hd (by omega), Gr.ringF_out (fun h => by have := Hmem2.out o (get_mem ho) d h; omega)]
          exact hag.out d hd hdv))
        have Hlt := Lib.hid hlt
        have h0i : (0 : Int) ≤ (i : Int) := by omega
        have h1i : (i : Int) < (O.length : Int) := by omega
        obtain ⟨avr, cvr, rfl⟩ := own_len hIr.out.own
        clear hgw hrin hoffr hR hlt m1 m2 m3 ho
        go_wp2_with fail
        refine HR.out.mono ?_
        rintro e w4 ⟨rfl, hm4, hg4⟩
        have HI4 := Lib.hid (hIr.out.turn hm4 hg4 hNr)
        have HS4 := Lib.hid (hSr.out.trans (RStep.of_grown _ hg4))
        clear hm4 hg4 hcell
        go_wp2_with fail
        refine (Hih.out (Gr.ringF mi o) _ _ w4 HI4.out Hgood.out Hc.out).mono ?_
        rintro e w5 ⟨rv5, m5, rfl, hI5, hS5, hag5⟩
        have HI5 := Lib.hid hI5; have HS5 := Lib.hid (HS4.out.trans hS5); have Hag5 := Lib.hid (Hag.out m5 hag5)
        clear hI5 hS5 hag5
        go_wp2
        go_roundw
        case rel => exact ⟨i + 1, Hlt.out, by go_num, m5, Lib.hid (by rw [Hs.out]; exact HI5.out), HS5, Hag5⟩
        case measure => have := Hlt.out; simp [intOf] <;> omega
      · obtain rfl : i = O.length := by omega
        obtain ⟨avr, cvr, rfl⟩ := own_len hIr.out.own
        clear hlt
        go_wp2
        go_ret
        exact ⟨_, mi, rfl, hIr.out, HS3.out.trans hSr.out, hag.out⟩

set_option maxRecDepth 10000 in
set_option maxHeartbeats 2000000 in
theorem spec_GenusRow (a : Option Addr) (c : Nat) (L : List (List Int)) (w : World) (ha : GridAt w a L) (hl : tot L ≤ 1048576) :
    Calls Try.prog 27 #[.slice a L.length c] w fun e w' => Gives w (Gr.genusRow L) e w' := by
  have hR := spec_CountRotations a c L w ha hl
  have hin := fun W => spec_l1In (Gr.rots L) 1 2000 W
  by_cases hG : Gr.IsG L ∧ Gr.rots L ≤ 2000
  · obtain ⟨hG1, hG2⟩ := hG
    have hre : Gr.rots L = ((Gr.rot (Gr.vx L) (2 * L.length) 7 : Nat) : Int) := Gr.rots_yes hG1
    have hpos := Gr.rot_pos (Gr.vx L) (2 * L.length) 7
    rw [decide_eq_true (show 1 ≤ Gr.rots L ∧ Gr.rots L ≤ 2000 by omega)] at hin
    have hv : Gr.genusRow L = intsOf (Gr.grow L) := if_pos ⟨hG1, hG2⟩
    rw [hv]
    obtain ⟨n, hn⟩ : ∃ n, n = 2 * L.length := ⟨_, rfl⟩
    have hl10 := hG1.2.2
    have hn20 : n ≤ 20 := by omega
    have hmul : IntKind.i64.wrap (2 * (L.length : Int)) = (n : Int) := by rw [wrap_small (by omega) (by omega)]; omega
    have hmul2 : 2 * (L.length : Int) = (n : Int) := by omega
    have hmk : ∀ W : World, (Instr.makeSlice 27 (.int .i64 (n : Int)) (.int .i64 (n : Int))).run Try.prog W = .ok (.slice (some ⟨W.heap.size, 0, none⟩) n n) (W.alloc (.cells (intCells (Cls.row (fun _ => 0) n)).toArray 3)) := fun W => mk_zeros n (by omega) W
    have hst := fun (W : World) => own_lit0 W (Cls.row (fun _ => 0) n) n (Cls.row_len _ _) (by unfold maxLen; omega)
    have h7 : ∀ v, v < 7 → (Gr.at7 (Gr.vx L) n v).length ≤ 7 := fun v hv => by rw [hn]; exact Gr.deg_small hv (by omega)
    have hC := fun gm rv W h => spec_l7Count w L gm n n c a ha hG1 hn h7 7 0 0 (fun _ => 0) [] rv W rfl rfl h (Gr.Good.zero _ _ _) (by rw [hn]; have := Gr.byVertex_few hG1 (fun _ => 0); simpa using this)
    have hgrow : Gr.hist ([] ++ (Gr.byVertex (Gr.vx L) n 7 0 fun _ => 0).map (Gr.genN n)) = Gr.grow L := by rw [List.nil_append, hn]; exact Gr.grow_eq hG1 _
    have HR := Lib.hid hR; have Hin := Lib.hid hin; have HC := Lib.hid hC; have Hst := Lib.hid hst; have Hgrow := Lib.hid hgrow
    clear hR hin hC hst hgrow h7 hn hG1 hre hpos hv ha
    generalize Gr.rots L = z at *
    go_enter Try.func27, Try.ntmps27
    go_wp2_with fail
    refine HR.out.mono ?_
    rintro e w1 ⟨rfl, hb1⟩
    have Hb1 := Lib.hid hb1; clear hb1
    go_wp2_with fail
    refine (Hin.out _).mono ?_
    rintro e w9 ⟨rfl, hw9⟩
    rw [hw9]; clear hw9 w9
    have hm1 := Hst.out w1
    have hN := Hb1.out.size
    have hI : MInv w w.heap.size w1.heap.size n n (fun _ => 0) [] (.slice (some ⟨w1.heap.size + 1, 0, none⟩) 0 0) ((w1.alloc (.cells (intCells (Cls.row (fun _ => 0) n)).toArray 3)).alloc (.cells #[] 3)) := by
      have hk : (w1.alloc (.cells (intCells (Cls.row (fun _ => 0) n)).toArray 3)).heap.size = w1.heap.size + 1 := by simp
      refine ⟨own_mono (hm1.alloc _) hN, ?_, fun e => by have h : w1.heap.size + 1 = w1.heap.size := Option.some.inj e; omega, (Hb1.out.alloc hN _).alloc (by rw [hk]; omega) _, fun _ h => by cases h⟩
      have h := own_made (w := w1.alloc (.cells (intCells (Cls.row (fun _ => 0) n)).toArray 3)) rfl
      rw [hk] at h
      exact own_mono h (by omega)
    have HI := Lib.hid hI
    clear hI hm1
    go_wp2_with fail
    refine (HC.out _ _ _ HI.out).mono ?_
    rintro e w3 ⟨rv', mf', rfl, hI3, _⟩
    have hown := hI3.own
    rw [Hgrow.out] at hown
    have Hown := Lib.hid hown; have Hb3 := Lib.hid hI3.bel
    obtain ⟨av, cv, rfl⟩ := own_len hown
    clear hI3 hown
    go_wp2
    go_ret
    exact own_gives Hown.out (intsOf_len _) Hb3.out
  · have hv : Gr.genusRow L = [] := if_neg hG
    rw [hv]
    have hbad : ¬ (1 ≤ Gr.rots L ∧ Gr.rots L ≤ 2000) := by
      rintro ⟨h1, h2⟩
      by_cases hG1 : Gr.IsG L
      · exact hG ⟨hG1, h2⟩
      · rw [Gr.rots_no hG1] at h1; omega
    rw [decide_eq_false hbad] at hin
    have HR := Lib.hid hR; have Hin := Lib.hid hin
    clear hR hin hbad hG ha hv
    generalize Gr.rots L = z at *
    go_enter Try.func27, Try.ntmps27
    go_wp2_with fail
    refine HR.out.mono ?_
    rintro e w1 ⟨rfl, hb1⟩
    have Hb1 := Lib.hid hb1; clear hb1
    go_wp2_with fail
    refine (Hin.out _).mono ?_
    rintro e w9 ⟨rfl, hw9⟩
    rw [hw9]; clear hw9 w9
    go_wp2
    go_ret
    exact Gives.nilAt (Hb1.out.alloc Hb1.out.size _)

set_option maxRecDepth 10000 in
set_option maxHeartbeats 1000000 in
theorem spec_LeastGenus (a : Option Addr) (c : Nat) (L : List (List Int)) (w : World) (ha : GridAt w a L) (hl : tot L ≤ 1048576) :
    Calls Try.prog 29 #[.slice a L.length c] w fun e w' => e = .returned (.int .i64 (Gr.leastOf L)) ∧ Below w.heap.size w w' := by
  have hR := spec_GenusRow a c L w ha hl
  have hln := Gr.genusRow_len L
  unfold Gr.leastOf
  generalize Gr.genusRow L = l at *
  obtain ⟨z, hz⟩ : ∃ z, Gr.least l = z := ⟨_, rfl⟩
  rw [hz]
  have HR := Lib.hid hR; have Hz := Lib.hid hz
  clear hR ha hz
  go_enter Try.func29, Try.ntmps29
  go_wp2_with fail
  refine HR.out.mono ?_
  rintro e w1 hg1
  obtain ⟨a1, c1, rfl, _, _, hf1, hb1⟩ := hg1
  have Hrow := Lib.hid hf1.row; have Hb1 := Lib.hid hb1
  clear hf1 hb1
  go_wp2
  go_loopw [4] (fun iv wr => ∃ i : Nat, i ≤ l.length ∧ iv = .int .i64 i ∧ wr = w1 ∧ Hid (Gr.leastTo l i = none)) (fun iv _ => l.length - (intOf iv).toNat)
  case atStart => exact ⟨0, Nat.zero_le _, rfl, rfl, Lib.hid rfl⟩
  case round =>
    obtain ⟨i, hi, rfl, hw, hno⟩ := hrel
    subst hw
    by_cases hlt : i < l.length
    · obtain ⟨x, hx⟩ := get_some hlt
      obtain ⟨b, o, rfl, hbw, hcell⟩ := intCells_get? Hrow.out hx
      have h0i : (0 : Int) ≤ (i : Int) := by omega
      have h1i : (i : Int) < (l.length : Int) := by omega
      have h2i : (i : Int) ≤ 200 := by omega
      by_cases hp : 0 < x
      · have hv : z = (i : Int) := by rw [← Hz.out]; exact Gr.least_at hno.out hx hp
        have Hv := Lib.hid hv
        clear hx hv
        go_wp2
        go_ret
        exact ⟨by rw [Hv.out]; rfl, Hb1.out⟩
      · have Hn := Lib.hid (Gr.least_next hno.out hx hp)
        have Hlt := Lib.hid hlt
        clear hx hlt
        go_wp2
        go_roundw
        case rel => exact ⟨i + 1, Hlt.out, by go_num, trivial, Hn⟩
        case measure => have := Hlt.out; simp [intOf] <;> omega
    · obtain rfl : i = l.length := by omega
      have hv : z = -1 := by rw [← Hz.out]; exact Gr.least_none hno.out
      have Hv := Lib.hid hv
      clear hv hlt
      go_wp2
      go_ret
      exact ⟨by rw [Hv.out]; rfl, Hb1.out⟩
end Go.Proofs.Ytpgdmbolckogcaa
