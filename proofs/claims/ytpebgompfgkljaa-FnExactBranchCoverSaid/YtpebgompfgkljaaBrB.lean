/-
  The walks of the program's CycleTypes and BranchSum.
-/
import Derived.Test.YtpebgompfgkljaaBase
import Derived.Test.YtpebgompfgkljaaSlice
import Derived.Test.YtpebgompfgkljaaIntRow
import Derived.Test.YtpebgompfgkljaaInts
import Derived.Test.YtpebgompfgkljaaOwn
import Derived.Test.YtpebgompfgkljaaAppend
import Derived.Test.YtpebgompfgkljaaWord
import Derived.Test.YtpebgompfgkljaaGrid
import Derived.Test.YtpebgompfgkljaaGridWalk
import Derived.Test.YtpebgompfgkljaaGridRows
import Derived.Test.YtpebgompfgkljaaClass
import Derived.Test.YtpebgompfgkljaaLab
import Derived.Test.YtpebgompfgkljaaMap
import Derived.Test.YtpebgompfgkljaaCov
import Derived.Test.YtpebgompfgkljaaCovA
import Derived.Test.YtpebgompfgkljaaCovB
import Derived.Test.YtpebgompfgkljaaCovF
import Derived.Test.YtpebgompfgkljaaBrA
import Derived.Deep.QuietTactic
import Derived.BigQuiet
import Derived.StillTailTactics
namespace Go.Proofs.Ytpebgompfgkljaa
open Go.RowKit

theorem Br.lifts_letter {L : List (List Int)} (h : Cv.Perms L) {i : Nat} {p : List Int} (hp : L[i]? = some p) : Cv.lifts L [((i + 1 : Nat) : Int)] = Br.lens p := by
  rw [Cv.lifts_eq, Br.actW_letter h hp]; rfl
theorem Br.types_of {L : List (List Int)} (h : Br.Pass L) : Br.types L = L.map Br.lens := if_pos h
theorem Br.types_not {L : List (List Int)} (h : ¬ Br.Pass L) : Br.types L = [] := if_neg h
theorem Br.types_take {L : List (List Int)} {i : Nat} {p : List Int} (hp : L[i]? = some p) : (L.take (i + 1)).map Br.lens = (L.take i).map Br.lens ++ [Br.lens p] := by
  obtain ⟨hi, rfl⟩ := List.getElem?_eq_some_iff.1 hp
  rw [List.take_succ_eq_append_getElem hi, List.map_append]; rfl
set_option maxRecDepth 10000 in
set_option maxHeartbeats 2000000 in
theorem impl_CycleTypes (a : Option Addr) (c : Nat) (L : List (List Int)) (w : World) (ha : GridAt w a L) (hL : ∀ p ∈ L, p.length ≤ 1048576) (hn : L.length ≤ 1048576) :
    Calls Try.prog 56 #[.slice a L.length c] w fun e w' => GivesRows w (Br.types L) e w' := by
  have hcP := impl_IsPassport a c L w ha hL hn
  by_cases hP : Br.Pass L
  · rw [decide_eq_true hP] at hcP
    rw [Br.types_of hP]
    obtain ⟨i0, hi0, hz0, hz1, hz2⟩ := info_ints_parts
    have Hi0 := Lib.hid hi0; have Hz0 := Lib.hid hz0; have Hz1 := Lib.hid hz1; have Hz2 := Lib.hid hz2
    have h5 := hP.1
    have hpp := hP.2.1
    have hLf := fun i p (hp : L[i]? = some p) al cl W (hg : GridAt W a L) (hr : RowAt W al (intCells [((i + 1 : Nat) : Int)])) => impl_LiftLengths a al c cl L [((i + 1 : Nat) : Int)] W hg hL hn hr (by simp)
    have HcP := Lib.hid hcP; have Hpp := Lib.hid hpp; have HLf := Lib.hid hLf; have Ha := Lib.hid ha
    clear hcP hP ha hL hLf hpp hi0 hz0 hz1 hz2
    go_enter Try.func56, Try.ntmps56
    go_wp2_with fail
    refine HcP.out.mono ?_
    rintro e w1 ⟨rfl, hb1⟩
    have Hb1 := Lib.hid hb1
    obtain ⟨N, hN⟩ : ∃ N, w.heap.size = N := ⟨_, rfl⟩
    have HN := Lib.hid hN
    have hN1 : N ≤ w1.heap.size := by have := hb1.size; omega
    clear hb1 hN
    go_wp2
    go_loopw [3, 4, 5, 11] (fun ov _ _ iv wr => ∃ i : Nat, i ≤ L.length ∧ iv = .int .i64 i ∧ Hid (Below w.heap.size w wr) ∧ Hid (∃ hs : List Hd, hs.map Hd.l = (L.take i).map Br.lens ∧ wr.ownsRow N 42 1 ov i (hdCells hs) ∧ (∀ h ∈ hs, RowIn wr N wr.heap.size 3 h.a (intCells h.l)) ∧ Apts hs)) (fun _ _ _ iv _ => L.length - (intOf iv).toNat)
    case atStart => exact ⟨0, by omega, rfl, Hb1, Lib.hid ⟨[], rfl, World.ownsRow_nil _ _ _ _, fun _ h => (by cases h), Apts.nil⟩⟩
    case round =>
      obtain ⟨i, hi, rfl, hb, hgr⟩ := hrel
      by_cases hlt : i < L.length
      · obtain ⟨p, hp⟩ := get_some hlt
        obtain ⟨hs', hh1, hown, hin, hap⟩ := hgr.out
        have hW0 := fun al cl W => HLf.out i p hp al cl W
        rw [Br.lifts_letter Hpp.out hp] at hW0
        obtain ⟨Z, hZ⟩ : ∃ Z : Int, ((i + 1 : Nat) : Int) = Z := ⟨_, rfl⟩
        rw [hZ] at hW0
        have e2 : IntKind.i64.wrap ((i : Int) + 1) = Z := by rw [wrap_small (by omega) (by omega)]; omega
        have hNw : N ≤ wr.heap.size := by have := hb.out.size; have := HN.out; omega
        have hbA : Below wr.heap.size wr (wr.alloc (.cells #[.int .i64 Z] 3)) := (Below.refl _ _).alloc (Nat.le_refl _) _
        have hk : Blk (wr.alloc (.cells #[.int .i64 Z] 3)) wr.heap.size 3 #[.int .i64 Z] := Blk.new _ _ _
        have hbB := hb.out.trans (hbA.mono hb.out.size)
        have hW := hW0 (some ⟨wr.heap.size, 0, none⟩) 1 _ (Ha.out.below hbB) (RowIn.of_blk (cs := intCells [Z]) hk (Nat.zero_le _) (Nat.lt_succ_self _)).row
        have hsn := Br.types_take hp
        have HZ := Lib.hid hZ
        generalize Br.lens p = l at *
        have Hsn := Lib.hid hsn; have HW := Lib.hid hW; have Hh1 := Lib.hid hh1; have Hown := Lib.hid hown; have Hin := Lib.hid hin; have Hap := Lib.hid hap; have HbA := Lib.hid hbA; have HbB := Lib.hid hbB
        clear hsn hW hW0 hZ hh1 hown hin hap hgr hp hk hbA hbB
        have hm1 : i + 1 ≤ maxLen := by unfold maxLen; omega
        have hm2 : (i + 1) * 24 ≤ 140737488355328 := by omega
        obtain ⟨ova, ovc, he⟩ := own_len Hown.out
        subst he
        go_wp2_with fail
        refine HW.out.mono ?_
        rintro e w2 ⟨ra, rc, rfl, hlc, _, hf, hb2⟩
        have Hlc := Lib.hid hlc
        have hb2' : Below wr.heap.size wr w2 := HbA.out.trans (hb2.mono HbA.out.size)
        have hN2 : N ≤ w2.heap.size := Nat.le_trans hNw hb2'.size
        have Hown2 := Lib.hid (own_keep Hown.out hb2' (fun k hk => (Hown.out.lt k hk).2))
        have Hb2 := Lib.hid hb2'; have Hbw2 := Lib.hid (hb.out.trans (hb2'.mono hb.out.size)); have Hf := Lib.hid (hf.mono HbA.out.size)
        clear hf hb2 hb2' hlc
        go_wp2_with (at_builtin; refine append_one rfl (.tmp 16) (.tmp 21) 24 rfl N 42 i0 _ 24 Try.underlying24 Hi0.out Hz0.out Hz1.out Hz2.out (by rfl) _ _ _ rfl Hown2.out (by rfl) _ rfl hm1 hm2 hN2 ?_; intro v1 w3 hown1 hg1 _)
        go_roundw
        case rel =>
          have hst := grid_step (c := rc) Hin.out Hap.out Hown2.out hNw Hf.out Hb2.out hg1 Hlc.out
          refine ⟨i + 1, by omega, by rw [← HZ.out], Lib.hid (Below.grown (Hbw2.out.alloc (by have := HN.out; omega) _) hg1 (by have := HN.out; simp; omega) (fun k hk => by have := (Hown2.out.lt k hk).1; have := HN.out; omega)), Lib.hid ⟨hs' ++ [⟨ra, rc, l⟩], ?_, ?_, hst⟩⟩
          · rw [List.map_append, Hh1.out, Hsn.out]; rfl
          · rw [← hdCells_snoc]; exact hown1
        case measure => have := HZ.out; simp [intOf]; omega
      · obtain rfl : i = L.length := by omega
        obtain ⟨hs', hh1, hown, hin, hap⟩ := hgr.out
        rw [List.take_of_length_le (Nat.le_refl _)] at hh1
        have hl : hs'.length = L.length := by have := congrArg List.length hh1; simpa using this
        obtain ⟨ga, gc, rfl, hgc, hgm, hg⟩ := grid_done hown hl hin hap
        rw [hh1] at hg
        have Hg := Lib.hid hg
        clear hg hgr hh1 hown hin hap
        go_wp2
        go_ret
        refine ⟨ga, gc, by rw [List.length_map]; rfl, by rw [List.length_map]; exact hgc, hgm, ?_, hb.out⟩
        rw [HN.out]; exact Hg.out
  · rw [decide_eq_false hP] at hcP
    rw [Br.types_not hP]
    have HcP := Lib.hid hcP
    clear hcP hP ha hL
    go_enter Try.func56, Try.ntmps56
    go_wp2_with fail
    refine HcP.out.mono ?_
    rintro e w1 ⟨rfl, hb1⟩
    have Hb1 := Lib.hid hb1; clear hb1
    go_wp2
    go_ret
    exact GivesRows.none Hb1.out
theorem Br.bsum_of {L : List (List Int)} (h : Br.Pass L) : Br.bsum L = Br.total L := if_pos h
theorem Br.bsum_not {L : List (List Int)} (h : ¬ Br.Pass L) : Br.bsum L = -1 := if_neg h
set_option maxRecDepth 10000 in
set_option maxHeartbeats 2000000 in
theorem impl_BranchSum (a : Option Addr) (c : Nat) (L : List (List Int)) (w : World) (ha : GridAt w a L) (hL : ∀ p ∈ L, p.length ≤ 1048576) (hn : L.length ≤ 1048576) :
    Calls Try.prog 51 #[.slice a L.length c] w fun e w' => e = .returned (.int .i64 (Br.bsum L)) ∧ Below w.heap.size w w' := by
  have hcP := impl_IsPassport a c L w ha hL hn
  by_cases hP : Br.Pass L
  · rw [decide_eq_true hP] at hcP
    rw [Br.bsum_of hP]
    have hcT := fun W (hb : Below w.heap.size w W) => impl_CycleTypes a c L W (ha.below hb) hL hn
    rw [Br.types_of hP] at hcT
    have hd1 := hP.2.1.2.1
    have h5 := hP.1
    have hd5 := hP.2.1.2.2.2.2
    obtain ⟨r0, hr0, hr0l⟩ := Cv.head_get (L := L) (by omega)
    obtain ⟨b0, o0, a0, c0, rfl, hbw0, hcell0, _⟩ := ha.get hr0
    rw [Nat.add_zero, hr0l] at hcell0
    have i2 : 0 < L.length := by omega
    have hmem := hP.2.1.1
    have HcP := Lib.hid hcP; have HcT := Lib.hid hcT; have HP := Lib.hid hP; have Hc0 := Lib.hid hcell0; have Hmem := Lib.hid hmem
    have hml : (L.map Br.lens).length = L.length := List.length_map _
    have Hml := Lib.hid hml
    clear hcP hcT hP ha hL hr0 hr0l hcell0 hmem hml
    go_enter Try.func51, Try.ntmps51
    go_wp2_with fail
    refine HcP.out.mono ?_
    rintro e w1 ⟨rfl, hb1⟩
    have Hb1 := Lib.hid hb1; clear hb1
    go_wp2_with fail
    refine (HcT.out w1 Hb1.out).mono ?_
    rintro e w2 ⟨ta, tc, rfl, _, _, hg2, hb2⟩
    have Hb2 := Lib.hid (Hb1.out.trans (hb2.mono Hb1.out.size)); have Hg2 := Lib.hid hg2.grid
    rw [Hml.out]
    clear hb2 hg2
    have c1 : w2.cell? ⟨b0, o0, none⟩ = some (.slice a0 (Cv.deg L) c0) := by rw [Hb2.out.cell hbw0]; exact Hc0.out
    obtain ⟨n, hn0⟩ : ∃ n, Cv.deg L = n := ⟨_, rfl⟩
    have Hn := Lib.hid hn0
    rw [hn0] at c1 hd5
    clear hn0
    go_wp2
    go_loopw [3, 5, 12] (fun sv _ iv wr => ∃ i : Nat, i ≤ L.length ∧ iv = .int .i64 i ∧ sv = .int .i64 (Br.total (L.take i)) ∧ wr = w2) (fun _ _ iv _ => L.length - (intOf iv).toNat)
    case atStart => exact ⟨0, by omega, rfl, rfl, rfl⟩
    case round =>
      obtain ⟨i, hi, rfl, rfl, rfl⟩ := hrel
      by_cases hlt : i < L.length
      · obtain ⟨p, hp⟩ := get_some hlt
        have hp2 : (L.map Br.lens)[i]? = some (Br.lens p) := by rw [List.getElem?_map, hp]; rfl
        obtain ⟨b, o, ai, ci, rfl, hbw, hcell, _⟩ := Hg2.out.get hp2
        have hpl := (Hmem.out p (get_mem hp)).1
        have hcy := Br.cycles_le (p := p)
        have hdf : Br.defect p = (n : Int) - ((Br.lens p).length : Int) := by unfold Br.defect; rw [Br.lens_len, hpl, Hn.out]
        have hll : (Br.lens p).length ≤ n := by rw [Br.lens_len, ← Hn.out, ← hpl]; exact hcy
        have hst := Br.total_take hp
        have ht := Br.total_few HP.out i
        generalize Br.total (L.take i) = T at *
        generalize (Br.lens p).length = ll at *
        have e1 : IntKind.i64.wrap ((n : Int) - (ll : Int)) = (n : Int) - (ll : Int) := wrap_small (by omega) (by omega)
        have e2 : IntKind.i64.wrap (T + ((n : Int) - (ll : Int))) = T + ((n : Int) - (ll : Int)) := wrap_small (by omega) (by omega)
        have Hst := Lib.hid (show Br.total (L.take (i + 1)) = T + ((n : Int) - (ll : Int)) by rw [hst, hdf])
        have i0 : (0 : Int) ≤ (i : Int) := by omega
        have i1 : (i : Int) < (L.length : Int) := by omega
        clear hst hdf hp hp2 hpl hcy
        go_wp2
        go_roundw
        case rel => exact ⟨i + 1, by omega, by go_num, by rw [Hst.out], trivial⟩
        case measure => simp [intOf]; omega
      · obtain rfl : i = L.length := by omega
        rw [List.take_of_length_le (Nat.le_refl _)]
        go_wp2
        go_ret
        exact ⟨rfl, Hb2.out⟩
  · rw [decide_eq_false hP] at hcP
    rw [Br.bsum_not hP]
    have HcP := Lib.hid hcP
    clear hcP hP ha hL
    go_enter Try.func51, Try.ntmps51
    go_wp2_with fail
    refine HcP.out.mono ?_
    rintro e w1 ⟨rfl, hb1⟩
    have Hb1 := Lib.hid hb1; clear hb1
    go_wp2
    go_ret
    exact ⟨rfl, Hb1.out⟩
end Go.Proofs.Ytpebgompfgkljaa
