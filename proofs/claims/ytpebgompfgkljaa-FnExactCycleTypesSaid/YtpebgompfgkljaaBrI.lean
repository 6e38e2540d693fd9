/-
  The walk of the model's CycleTypes.
-/
import Derived.Test.YtpebgompfgkljaaBase
import Derived.Test.YtpebgompfgkljaaSlice
import Derived.Test.YtpebgompfgkljaaIntRow
import Derived.Test.YtpebgompfgkljaaInts
import Derived.Test.YtpebgompfgkljaaOwn
import Derived.Test.YtpebgompfgkljaaAppend
import Derived.Test.YtpebgompfgkljaaGridRows
import Derived.Test.YtpebgompfgkljaaWord
import Derived.Test.YtpebgompfgkljaaIsWord
import Derived.Test.YtpebgompfgkljaaGrid
import Derived.Test.YtpebgompfgkljaaGridWalk
import Derived.Test.YtpebgompfgkljaaClass
import Derived.Test.YtpebgompfgkljaaLab
import Derived.Test.YtpebgompfgkljaaMap
import Derived.Test.YtpebgompfgkljaaMapA
import Derived.Test.YtpebgompfgkljaaMapB
import Derived.Test.YtpebgompfgkljaaCov
import Derived.Test.YtpebgompfgkljaaCovA
import Derived.Test.YtpebgompfgkljaaCovF
import Derived.Test.YtpebgompfgkljaaBrB
import Derived.Test.YtpebgompfgkljaaBrF
import Derived.Deep.QuietTactic
import Derived.BigQuiet
import Derived.StillTailTactics
namespace Go.Proofs.Ytpebgompfgkljaa
open Go.RowKit

set_option maxRecDepth 10000 in
set_option maxHeartbeats 2000000 in
theorem spec_CycleTypes (a : Option Addr) (c : Nat) (L : List (List Int)) (w : World) (ha : GridAt w a L) (hL : ∀ p ∈ L, p.length ≤ 1048576) (hn : L.length ≤ 1048576) :
    Calls Try.prog 55 #[.slice a L.length c] w fun e w' => GivesRows w (Br.types L) e w' := by
  have hcP := fun W (hb : Below w.heap.size w W) => spec_IsPassport a c L W (ha.below hb) hL hn
  have hbN : Below w.heap.size w (w.alloc (.cells #[] 42)) := (Below.refl _ _).alloc (Nat.le_refl _) _
  by_cases hP : Br.Pass L
  · rw [decide_eq_true hP] at hcP
    rw [Br.types_of hP]
    obtain ⟨i0, hi0, hz0, hz1, hz2⟩ := info_ints_parts
    have Hi0 := Lib.hid hi0; have Hz0 := Lib.hid hz0; have Hz1 := Lib.hid hz1; have Hz2 := Lib.hid hz2
    have h5 := hP.1
    have hd5 := hP.2.1.2.2.2.2
    have hmem := hP.2.1.1
    obtain ⟨N, hN⟩ : ∃ N, w.heap.size = N := ⟨_, rfl⟩
    have hmk := made_rows (N := N) (w := w) hN
    rw [hN] at hmk
    have HN := Lib.hid hN
    have HcP := Lib.hid hcP; have Hmem := Lib.hid hmem; have Ha := Lib.hid ha; have HbN := Lib.hid hbN; have Hmk := Lib.hid hmk
    clear hcP hP ha hL hmem hbN hmk hi0 hz0 hz1 hz2 hN
    go_enter Try.func55, Try.ntmps55
    go_wp2
    go_loopw [3, 4, 5, 6, 7] (fun ov kv _ _ _ wr => ∃ i : Nat, i ≤ L.length ∧ kv = .int .i64 i ∧ Hid (Below w.heap.size w wr) ∧ Hid (∃ hs : List Hd, hs.map Hd.l = (L.take i).map Br.lens ∧ wr.ownsRow N 42 1 ov i (hdCells hs) ∧ (∀ h ∈ hs, RowIn wr N wr.heap.size 3 h.a (intCells h.l)) ∧ Apts hs)) (fun _ kv _ _ _ _ => L.length - (intOf kv).toNat)
    case atStart => exact ⟨0, by omega, rfl, HbN, Lib.hid ⟨[], rfl, by rw [HN.out]; exact Hmk.out, fun _ h => (by cases h), Apts.nil⟩⟩
    case round =>
      obtain ⟨i, hi, rfl, hb, hgr⟩ := hrel
      by_cases hlt : i < L.length
      · have dlt : decide (i < L.length) = true := decide_eq_true hlt
        obtain ⟨p, hp⟩ := get_some hlt
        obtain ⟨b, o, pa, pc, rfl, hbw, hcell0, hrow⟩ := Ha.out.get hp
        obtain ⟨hpl, hpP⟩ := Hmem.out p (get_mem hp)
        have hfew : (Mp.cycles p).length ≤ 5 := Nat.le_trans Br.cycles_le (by omega)
        have hC := fun W (hB : Below w.heap.size w W) => spec_l6CyclesP pa pc p W (hrow.below hB) hpP (by omega)
        have hsn := Br.types_take hp
        have hlen : Br.lens p = ((Mp.cycles p).map fun r => (r.length : Int)).mergeSort := rfl
        have hK := fun W (hB : Below w.heap.size w W) => show W.cell? ⟨b, o + i, none⟩ = some (.slice pa p.length pc) from by rw [hB.cell hbw]; exact hcell0
        obtain ⟨hs', hh1, hown, hin, hap⟩ := hgr.out
        have Hown := Lib.hid hown; have Hh1 := Lib.hid hh1; have Hin := Lib.hid hin; have Hap := Lib.hid hap
        generalize Mp.cycles p = C at *
        generalize Br.lens p = l0 at *
        have HC := Lib.hid hC; have Hsn := Lib.hid hsn; have Hlen := Lib.hid hlen; have HK := Lib.hid hK
        have hNw : N ≤ wr.heap.size := by have := hb.out.size; have := HN.out; omega
        have i0' : (0 : Int) ≤ (i : Int) := by omega
        have i1' : (i : Int) < (L.length : Int) := by omega
        clear hC hsn hlen hK hcell0 hrow hpP hpl hown hh1 hin hap hgr hp
        obtain ⟨wo, hwo⟩ : ∃ wo : World, wo = wr := ⟨_, rfl⟩
        subst hwo
        obtain ⟨I, hI⟩ : ∃ I, I = i := ⟨_, rfl⟩
        subst hI
        go_wp2_with fail
        refine (HcP.out _ hb.out).mono ?_
        rintro e w1 ⟨rfl, hb1⟩
        have hbw1 := hb.out.trans (hb1.mono hb.out.size)
        have Hb1o := Lib.hid hb1
        have hal : Below w1.heap.size w1 (w1.alloc (.cells #[] 3)) := (Below.refl _ _).alloc (Nat.le_refl _) _
        have hbA := hbw1.trans (hal.mono hbw1.size)
        have cK := HK.out _ hbA
        have HC2 := Lib.hid (HC.out _ hbA)
        have Hal := Lib.hid hal; have HbA := Lib.hid hbA; have Hbw1 := Lib.hid hbw1
        have Hmk := Lib.hid (own_made (w := w1) rfl)
        clear hb1 hbw1 hal hbA
        go_wp2_with fail
        refine HC2.out.mono ?_
        rintro e w2 ⟨ca, cc, rfl, _, _, hg2, hb2⟩
        have hm2 := own_keep Hmk.out hb2 (fun k hk => (Hmk.out.lt k hk).2)
        obtain ⟨B0, hB0⟩ : ∃ B0, w1.heap.size = B0 := ⟨_, rfl⟩
        have HB0 := Lib.hid hB0
        rw [hB0] at hm2
        have Hb2 := Lib.hid (show Below B0 w1 w2 from by rw [← hB0]; exact Hal.out.trans (hb2.mono Hal.out.size))
        have Hm2 := Lib.hid (show w2.ownsRow B0 3 1 (.slice (some ⟨B0, 0, none⟩) 0 0) 0 (intCells []) from hm2)
        obtain ⟨lo, hlo'⟩ : ∃ lo, (w1.alloc (.cells #[] 3)).heap.size = lo := ⟨_, rfl⟩
        have hlo : B0 < lo := by rw [← hlo', ← hB0]; simp
        obtain ⟨hiB, hhi'⟩ : ∃ hi, w2.heap.size = hi := ⟨_, rfl⟩
        have hhi : lo ≤ hiB := by rw [← hlo', ← hhi']; exact hb2.size
        rw [hlo', hhi'] at hg2
        rw [hB0]
        have Hhi := Lib.hid hhi'
        have Hg2 := Lib.hid (show GridIn w2 lo hiB ca C from hg2)
        have hiI := hi
        have HbI := hb
        have hltI := hlt
        clear hg2 hb2 hm2 hlo' hhi' hB0 cK hi hlt dlt i0' i1' hNw hb
        go_wp2
        go_loopw [5, 7] (fun ov iv wr => ∃ i : Nat, i ≤ C.length ∧ iv = .int .i64 i ∧ ∃ g cap, ov = .slice (some ⟨g, 0, none⟩) i cap ∧ (g < lo ∨ hiB ≤ g) ∧ hiB ≤ wr.heap.size ∧ Hid (Below B0 w1 wr) ∧ Hid (GridIn wr lo hiB ca C) ∧ Hid (∃ r : List Int, r.length = i ∧ wr.ownsRow B0 3 1 (.slice (some ⟨g, 0, none⟩) i cap) i (intCells r) ∧ r.Perm ((C.take i).map fun r => (r.length : Int)) ∧ r.Pairwise (· ≤ ·))) (fun _ iv _ => C.length - (intOf iv).toNat)
        case atStart => exact ⟨0, by omega, rfl, B0, 0, rfl, Or.inl hlo, by rw [Hhi.out]; exact Nat.le_refl _, Hb2, Hg2, Lib.hid ⟨[], rfl, Hm2.out, List.Perm.refl _, List.Pairwise.nil⟩⟩
        case round =>
          obtain ⟨i, hi', rfl, g, cap, rfl, hgo, hsz, hb, hgr, hrow⟩ := hrel
          by_cases hlt : i < C.length
          · obtain ⟨q, hq⟩ := get_some hlt
            obtain ⟨b, o, ai, ci, rfl, hbw, hcell, _⟩ := hgr.out.grid.get hq
            obtain ⟨r, hrl, hown, hperm, hsort⟩ := hrow.out
            have hP := spec_l9Put B0 g cap r (q.length : Int) wr (by rw [hrl]; exact hown) (by rw [← HB0.out]; exact hb.out.size) (by omega)
            rw [hrl] at hP
            have hnext : ∀ p, Cv.Cut r (q.length : Int) p → ((r.take p ++ [(q.length : Int)] ++ r.drop p).Perm ((C.take (i + 1)).map fun r => (r.length : Int)) ∧ (r.take p ++ [(q.length : Int)] ++ r.drop p).Pairwise (· ≤ ·) ∧ (r.take p ++ [(q.length : Int)] ++ r.drop p).length = i + 1) := fun p hp => by
              obtain ⟨hl2, rfl⟩ := List.getElem?_eq_some_iff.1 hq
              refine ⟨?_, Cv.cut_sorted hp hsort, ?_⟩
              · rw [List.take_succ_eq_append_getElem hl2, List.map_append]
                exact (Cv.cut_perm r _ p).trans (hperm.append_right _)
              · rw [(Cv.cut_perm r _ p).length_eq, List.length_append, hrl]; rfl
            have hglt := (hown.lt g rfl)
            have HP := Lib.hid hP; have Hnext := Lib.hid hnext; have Hrl := Lib.hid hrl
            have hi0 : (0 : Int) ≤ (i : Int) := by omega
            have hi1 : (i : Int) < (C.length : Int) := by omega
            clear hP hnext hown hperm hsort hrow hrl hq
            go_wp2_with fail
            refine HP.out.mono ?_
            rintro e w3 ⟨g', cap', p, rfl, hcut, hown3, hg3, hgg⟩
            have hN3 := Hnext.out p hcut
            have Hown3 := Lib.hid hown3; have Hg3 := Lib.hid hg3; have HN3 := Lib.hid hN3
            rw [Hrl.out] at Hown3
            rw [Hrl.out]
            clear hown3 hg3 hN3 hcut
            go_wp2
            go_roundw
            case rel =>
              refine ⟨i + 1, by omega, by go_num, g', cap', rfl, by rcases hgg with h | h <;> omega, Nat.le_trans hsz Hg3.out.size, Lib.hid (Below.grown hb.out Hg3.out (by rw [← HB0.out]; exact hb.out.size) (fun k hk => by cases hk; exact hglt.1)), Lib.hid ?_, Lib.hid ⟨_, HN3.out.2.2, Hown3.out, HN3.out.1, HN3.out.2.1⟩⟩
              exact hgr.out.only (Only.of_grown Hg3.out) (by omega)
            case measure => simp [intOf]; omega
          · obtain rfl : i = C.length := by omega
            obtain ⟨r, hrl, hown, hperm, hsort⟩ := hrow.out
            rw [List.take_of_length_le (Nat.le_refl _)] at hperm
            have hs := Cv.sort_eq hperm hsort
            rw [← Hlen.out] at hs
            obtain ⟨ra, rc, he, hrc, hrf⟩ := own_fresh hown (by rw [intCells_len]; exact hrl)
            cases he
            have hrl0 : l0.length = C.length := by rw [hs]; exact hrl
            rw [← hs] at hrf
            have Hrf := Lib.hid hrf; have Hrc := Lib.hid hrc; have Hrl0 := Lib.hid hrl0
            have hbo : Below wo.heap.size wo wr := Hb1o.out.trans (hb.out.mono (by have := HB0.out; have := Hb1o.out.size; omega))
            have Hbo := Lib.hid hbo
            have Hown2 := Lib.hid (own_keep Hown.out hbo (fun k hk => (Hown.out.lt k hk).2))
            have hNo : N ≤ wo.heap.size := by have := HbI.out.size; have := HN.out; omega
            have hN2 : N ≤ wr.heap.size := Nat.le_trans hNo hbo.size
            have hm1 : I + 1 ≤ maxLen := by unfold maxLen; omega
            have hm2 : (I + 1) * 24 ≤ 140737488355328 := by omega
            have HBo := Lib.hid (show wo.heap.size ≤ B0 by have := HB0.out; have := Hb1o.out.size; omega)
            obtain ⟨ova, ovc, he⟩ := own_len Hown2.out
            subst he
            clear hs hown hperm hsort hrow hrl hrf hrc hrl0 hbo
            go_wp2_with (at_builtin; refine append_one rfl (.tmp 38) (.tmp 40) 24 rfl N 42 i0 _ 24 Try.underlying24 Hi0.out Hz0.out Hz1.out Hz2.out (by rfl) _ _ _ rfl Hown2.out (by rfl) _ rfl hm1 hm2 hN2 ?_; intro v1 w3 hown1 hg1 _)
            go_roundw
            case rel =>
              have hst := grid_step (c := cap) (l := l0) Hin.out Hap.out Hown2.out hNo (Hrf.out.mono HBo.out) Hbo.out hg1 (by rw [Hrl0.out]; exact Hrc.out)
              refine ⟨I + 1, by omega, by go_num, Lib.hid (Below.grown ((HbI.out.trans (Hbo.out.mono HbI.out.size)).alloc (by have := HN.out; omega) _) hg1 (by have := HN.out; simp; omega) (fun k hk => by have := (Hown2.out.lt k hk).1; have := HN.out; omega)), Lib.hid ⟨hs' ++ [⟨some ⟨g, 0, none⟩, cap, l0⟩], ?_, ?_, hst⟩⟩
              · rw [List.map_append, Hh1.out, Hsn.out]; rfl
              · rw [← hdCells_snoc]
                rw [show Hd.val ⟨some ⟨g, 0, none⟩, cap, l0⟩ = .slice (some ⟨g, 0, none⟩) C.length cap by rw [← Hrl0.out]; rfl]
                exact hown1
            case measure => simp [intOf]; omega
      · obtain rfl : i = L.length := by omega
        have dlt : decide (L.length < L.length) = false := decide_eq_false (by omega)
        obtain ⟨hs', hh1, hown, hin, hap⟩ := hgr.out
        rw [List.take_of_length_le (Nat.le_refl _)] at hh1
        have hl : hs'.length = L.length := by have := congrArg List.length hh1; simpa using this
        obtain ⟨ga, gc, rfl, hgc, hgm, hg⟩ := grid_done hown hl hin hap
        rw [hh1] at hg
        have Hg := Lib.hid hg
        clear hg hgr hh1 hown hin hap
        go_wp2
        go_ret
        refine ⟨ga, gc, by rw [List.length_map]; rfl, by rw [List.length_map]; exact hgc, hgm, ?_, hb.out⟩
        rw [HN.out]; exact Hg.out
  · rw [decide_eq_false hP] at hcP
    rw [Br.types_not hP]
    have HcP := Lib.hid hcP; have HbN := Lib.hid hbN
    clear hcP hP ha hL hbN
    go_enter Try.func55, Try.ntmps55
    go_wp2
    go_loopw [3, 4, 5, 6, 7] (fun ov kv _ _ _ wr => ov = .slice (some ⟨w.heap.size, 0, none⟩) 0 0 ∧ kv = .int .i64 0 ∧ Hid (Below w.heap.size w wr)) (fun _ _ _ _ _ _ => 0)
    case atStart => exact ⟨rfl, rfl, HbN⟩
    case round =>
      obtain ⟨rfl, rfl, hb⟩ := hrel
      by_cases h0 : 0 < L.length
      · have dlt : (0 : Int) < (L.length : Int) := by omega
        go_wp2_with fail
        refine (HcP.out _ hb.out).mono ?_
        rintro e w1 ⟨rfl, hb1⟩
        have Hb1 := Lib.hid (hb.out.trans (hb1.mono hb.out.size)); clear hb1
        go_wp2
        go_ret
        exact GivesRows.none Hb1.out
      · have dlt : ¬ (0 : Int) < (L.length : Int) := by omega
        go_wp2
        go_ret
        exact GivesRows.none hb.out
end Go.Proofs.Ytpebgompfgkljaa
