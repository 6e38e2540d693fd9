/-
  The walks of the model's BraidPassport and MapPassport.
-/
import Derived.Test.YtpebgompfgkljaaBase
import Derived.Test.YtpebgompfgkljaaSlice
import Derived.Test.YtpebgompfgkljaaIntRow
import Derived.Test.YtpebgompfgkljaaInts
import Derived.Test.YtpebgompfgkljaaOwn
import Derived.Test.YtpebgompfgkljaaAppend
import Derived.Test.YtpebgompfgkljaaWord
import Derived.Test.YtpebgompfgkljaaIsWord
import Derived.Test.YtpebgompfgkljaaGrid
import Derived.Test.YtpebgompfgkljaaGridWalk
import Derived.Test.YtpebgompfgkljaaGridRows
import Derived.Test.YtpebgompfgkljaaClass
import Derived.Test.YtpebgompfgkljaaLab
import Derived.Test.YtpebgompfgkljaaMap
import Derived.Test.YtpebgompfgkljaaMapA
import Derived.Test.YtpebgompfgkljaaMapB
import Derived.Test.YtpebgompfgkljaaMoveA
import Derived.Test.YtpebgompfgkljaaPermInv
import Derived.Test.YtpebgompfgkljaaCov
import Derived.Test.YtpebgompfgkljaaCovA
import Derived.Test.YtpebgompfgkljaaCovC
import Derived.Test.YtpebgompfgkljaaBrC
import Derived.Test.YtpebgompfgkljaaBrD
import Derived.Test.YtpebgompfgkljaaBrF
import Derived.Deep.QuietTactic
import Derived.Deep.RegionHeld3
import Derived.BigQuiet
import Derived.StillTailTactics
namespace Go.Proofs.Ytpebgompfgkljaa
open Go.RowKit

set_option maxRecDepth 10000 in
set_option maxHeartbeats 2000000 in
theorem spec_BraidPassport (a : Option Addr) (c : Nat) (L : List (List Int)) (k : Int) (w : World) (ha : GridAt w a L) (hL : ∀ p ∈ L, p.length ≤ 1048576) (hn : L.length ≤ 1048576) (hk0 : -9223372036854775808 ≤ k) (hk1 : k ≤ 9223372036854775807) :
    Calls Try.prog 61 #[.slice a L.length c, .int .i64 k] w fun e w' => GivesRows2 w (Br.braid L k) (decide (Br.BraidOk L k)) e w' := by
  have hcP := spec_IsPassport a c L w ha hL hn
  have e2 : IntKind.i64.wrap ((L.length : Int) - 2) = (L.length : Int) - 2 := wrap_small (by omega) (by omega)
  by_cases hP : Br.Pass L
  · rw [decide_eq_true hP] at hcP
    have hI := fun W => spec_l1In k 0 ((L.length : Int) - 2) W
    by_cases h01 : 0 ≤ k ∧ k ≤ (L.length : Int) - 2
    · rw [decide_eq_true h01] at hI
      obtain ⟨h0, h1⟩ := h01
      obtain ⟨K, rfl⟩ : ∃ K : Nat, k = (K : Int) := ⟨k.toNat, by omega⟩
      have hok : Br.BraidOk L (K : Int) := ⟨hP, h0, h1⟩
      obtain ⟨p, hp⟩ := get_some (show K < L.length by omega)
      obtain ⟨q, hq⟩ := get_some (show K + 1 < L.length by omega)
      rw [Br.braid_of hok hp hq, decide_eq_true hok]
      have hpm := hP.2.1.1 p (get_mem hp)
      have hqm := hP.2.1.1 q (get_mem hq)
      have hd5 := hP.2.1.2.2.2.2
      have h5 := hP.1
      obtain ⟨i0, hi0, hz0, hz1, hz2⟩ := info_int_parts
      have Hi0 := Lib.hid hi0; have Hz0 := Lib.hid hz0; have Hz1 := Lib.hid hz1; have Hz2 := Lib.hid hz2
      have hC := fun W (h : Below w.heap.size w W) => spec_l5Copy a c L W (ha.below h) (Br.perms_tot hP.2.1)
      have hcw := Br.actW_conj hP.2.1 hp hq
      have hlit : ([((K + 1 : Nat) : Int), ((K + 2 : Nat) : Int), -((K + 1 : Nat) : Int)] : List Int) = [(K : Int) + 1, (K : Int) + 2, -(K : Int) - 1] := by
        rw [show ((K + 1 : Nat) : Int) = (K : Int) + 1 by omega, show ((K + 2 : Nat) : Int) = (K : Int) + 2 by omega, show -((K : Int) + 1) = -(K : Int) - 1 by omega]
      rw [hlit] at hcw
      have hA := fun aw W (hb : Below w.heap.size w W) (h : RowAt W aw (intCells [(K : Int) + 1, (K : Int) + 2, -(K : Int) - 1])) => spec_ActWord a aw c 3 L [(K : Int) + 1, (K : Int) + 2, -(K : Int) - 1] W (ha.below hb) hL hn h (by simp)
      rw [hcw, show [(K : Int) + 1, (K : Int) + 2, -(K : Int) - 1].length = 3 from rfl] at hA
      have hxl : (Br.conj p q).length = Cv.deg L := by rw [Br.conj_len]; exact hpm.1
      have hpl := hpm.1
      obtain ⟨b, o, pa, pc, rfl, hbw, hcell, hrow⟩ := ha.get hp
      rw [hpl] at hcell
      generalize Br.conj p q = X at *
      generalize Cv.deg L = n at *
      have f1 : IntKind.i64.wrap ((K : Int) + 1) = (K : Int) + 1 := wrap_small (by omega) (by omega)
      have f2 : IntKind.i64.wrap ((K : Int) + 2) = (K : Int) + 2 := wrap_small (by omega) (by omega)
      have f3 : IntKind.i64.wrap (-(K : Int)) = -(K : Int) := wrap_small (by omega) (by omega)
      have f4 : IntKind.i64.wrap (-(K : Int) - 1) = -(K : Int) - 1 := wrap_small (by omega) (by omega)
      have k0 : (0 : Int) ≤ (K : Int) := by omega
      have k1 : (K : Int) < (L.length : Int) := by omega
      have k2 : (0 : Int) ≤ (K : Int) + 1 := by omega
      have k3 : (K : Int) + 1 < (L.length : Int) := by omega
      have HcP := Lib.hid hcP; have HI := Lib.hid hI; have HC := Lib.hid hC; have HA := Lib.hid hA; have Hxl := Lib.hid hxl; have Hpl := Lib.hid hpl; have Hp := Lib.hid hp; have Hcell := Lib.hid hcell; have Hrow := Lib.hid hrow
      clear hcP hI hC hA hP ha hL hok hp hq hpm hqm hxl hpl h0 h1 hcw hlit hcell hrow hi0 hz0 hz1 hz2
      go_enter Try.func61, Try.ntmps61
      go_wp2_with fail
      refine HcP.out.mono ?_
      rintro e w1 ⟨rfl, hb1⟩
      have Hb1 := Lib.hid hb1; clear hb1
      go_wp2_with fail
      refine (HI.out _).mono ?_
      rintro e w0 ⟨rfl, hw0⟩
      rw [hw0]; clear hw0 w0
      go_wp2_with fail
      refine (HC.out w1 Hb1.out).mono ?_
      rintro e w2 ⟨v2, rfl, hh2, hb2⟩
      obtain ⟨g, cap, rfl, hgN, hgw, hgc, hgm⟩ := hh2.form (by omega)
      obtain ⟨hs, hsl, hh, hap⟩ := hh2.hold
      have Hb2 := Lib.hid (Hb1.out.trans (hb2.mono Hb1.out.size)); have Hb12 := Lib.hid hb2
      have Hhs := Lib.hid hsl; have Hh := Lib.hid hh; have Hap := Lib.hid hap; have HgN := Lib.hid hgN
      clear hh2 hsl hh hap hb2
      obtain ⟨x, hx, hxe⟩ : ∃ x, hs[K]? = some x ∧ x.l = p := by
        have h := Hp.out
        rw [← Hhs.out, List.getElem?_map] at h
        cases he : hs[K]? with
        | none => rw [he] at h; cases h
        | some x => rw [he] at h; exact ⟨x, rfl, Option.some.inj h⟩
      obtain ⟨y, hy⟩ : ∃ y, hs[K + 1]? = some y := get_some (by have h := congrArg List.length Hhs.out; rw [List.length_map] at h; omega)
      have Hx := Lib.hid hx; have Hy1 := Lib.hid hy
      clear hx hy hxe
      have hbl : Below w2.heap.size w2 (w2.alloc (.cells #[.int .i64 ((K : Int) + 1), .int .i64 ((K : Int) + 2), .int .i64 (-(K : Int) - 1)] 3)) := (Below.refl _ _).alloc (Nat.le_refl _) _
      have hbk : Blk (w2.alloc (.cells #[.int .i64 ((K : Int) + 1), .int .i64 ((K : Int) + 2), .int .i64 (-(K : Int) - 1)] 3)) w2.heap.size 3 #[.int .i64 ((K : Int) + 1), .int .i64 ((K : Int) + 2), .int .i64 (-(K : Int) - 1)] := Blk.new _ _ _
      have HA2 := Lib.hid (HA.out (some ⟨w2.heap.size, 0, none⟩) _ (Hb2.out.trans (hbl.mono Hb2.out.size)) (RowIn.of_blk (cs := intCells [(K : Int) + 1, (K : Int) + 2, -(K : Int) - 1]) hbk (Nat.zero_le _) (Nat.lt_succ_self _)).row)
      have Hbl := Lib.hid hbl
      clear hbl hbk
      go_wp2_with fail
      refine HA2.out.mono ?_
      rintro e w4 ⟨ra, rc, rfl, hrc, _, hf4, hb4⟩
      have Hf4 := Lib.hid (show RowIn w4 w2.heap.size w4.heap.size 3 ra (intCells X) from (RowIn.of_fresh hf4).mono Hbl.out.size (Nat.le_refl _))
      have Hb4 := Lib.hid (Hbl.out.trans (hb4.mono Hbl.out.size))
      rw [Hxl.out] at hrc ⊢
      have Hrc := Lib.hid hrc
      clear hf4 hb4 hrc
      have Hh4 := Lib.hid (Hh.out.below Hb4.out)
      have hfz4 := Hh4.out.frozen K
      have c4 := Hh4.out.cell Hx.out
      have hz12 := Hb12.out.size
      have hh5 := Hh4.out.set (p := K) (x := ⟨ra, rc, X⟩) (Hf4.out.mono hz12 (Nat.le_refl _))
      simp only [Hxl.out] at hh5
      have hrx5 : RowIn (w4.setCell ⟨g, K, none⟩ (.slice ra n rc)) w2.heap.size (w4.setCell ⟨g, K, none⟩ (.slice ra n rc)).heap.size 3 ra (intCells X) := by
        have h := Hh4.out.far (p := K) (v := .slice ra n rc) Hf4.out
        simpa [World.setCell] using h
      have hb5 : Below w.heap.size w (w4.setCell ⟨g, K, none⟩ (.slice ra n rc)) := (Hb2.out.trans (Hb4.out.mono Hb2.out.size)).setCell (p := ⟨g, K, none⟩) (Nat.le_trans Hb1.out.size HgN.out) _
      have hy5 : (hs.set K ⟨ra, rc, X⟩)[K + 1]? = some y := by rw [List.getElem?_set_ne (by omega)]; exact Hy1.out
      have Hh5 := Lib.hid hh5; have Hrx5 := Lib.hid hrx5; have Hb5 := Lib.hid hb5; have Hy5 := Lib.hid hy5
      have hsz5 : (w4.setCell ⟨g, K, none⟩ (.slice ra n rc)).heap.size = w4.heap.size := by simp [World.setCell]
      have Hsz5 := Lib.hid hsz5
      clear hh5 hrx5 hb5 hy5 hsz5
      obtain ⟨w5, hw5⟩ : ∃ w5, w4.setCell ⟨g, K, none⟩ (.slice ra n rc) = w5 := ⟨_, rfl⟩
      rw [hw5] at Hh5 Hrx5 Hb5 Hsz5
      have c5 : ∀ W, Below w.heap.size w W → W.cell? ⟨b, o + K, none⟩ = some (.slice pa n pc) := fun W hB => by rw [hB.cell hbw]; exact Hcell.out
      have hal : Below w5.heap.size w5 (w5.alloc (.cells #[] 3)) := (Below.refl _ _).alloc (Nat.le_refl _) _
      have hbal := Hb5.out.trans (hal.mono Hb5.out.size)
      have c6 := c5 _ hbal
      have Hmk := Lib.hid (own_made (w := w5) rfl)
      have HrM := Lib.hid (Hrow.out.below hbal)
      have Hal := Lib.hid hal; have Hbal := Lib.hid hbal
      have Hl2 := Lib.hid (show (intCells p).length = n by rw [intCells_len]; exact Hpl.out)
      have a7 : 0 + n ≤ maxLen := by unfold maxLen; omega
      have a8 : (0 + n) * 8 ≤ 140737488355328 := by omega
      clear c5 hal hbal
      go_wp2_with (at_builtin; refine append_row rfl (.tmp 37) (.tmp 41) 42 rfl w5.heap.size 3 i0 _ 8 Try.underlying42 Hi0.out Hz0.out Hz1.out Hz2.out (by rfl) _ 0 (intCells []) rfl Hmk.out pa n _ (intCells p) rfl HrM.out Hl2.out (intCells_one _) a7 a8 Hal.out.size ?_; intro v7 w7 hown7 hg7; have hb7 : Below w5.heap.size w5 w7 := Below.grown Hal.out hg7 (Nat.le_trans (Nat.le_refl _) Hal.out.size) (fun j hj => (Hmk.out.lt j hj).1); rw [Nat.zero_add] at hown7; obtain ⟨ya, yc, rfl, hyc, hyf⟩ := own_fresh hown7 Hl2.out; have Hb7 := Lib.hid hb7; have Hyc := Lib.hid hyc; have Hyf := Lib.hid hyf; have Hh7 := Lib.hid (Hh5.out.below hb7); have hfz7 := Hh7.out.frozen (K + 1); have c7 := Hh7.out.cell Hy5.out; clear hown7 hg7 hb7 hyc hyf)
      have hh8 := Hh7.out.set (p := K + 1) (x := ⟨ya, yc, p⟩) ((RowIn.of_fresh Hyf.out).mono (by have := Hb4.out.size; have := Hsz5.out; omega) (Nat.le_refl _))
      simp only [Hpl.out] at hh8
      have hap1 := pair_set (p := K) (x := ⟨ra, rc, X⟩) Hap.out (fun z hz => apart_new (Hh.out.2 z hz) Hf4.out) (by show X.length ≤ rc; rw [Hxl.out]; exact Hrc.out)
      have hap2 := pair_set (p := K + 1) (x := ⟨ya, yc, p⟩) hap1 (fun z hz => by
        refine apart_new (m := w5.heap.size) (Hh5.out.2 z hz) (RowIn.of_fresh Hyf.out)) (by show p.length ≤ yc; rw [Hpl.out]; exact Hyc.out)
      have hh9 := hh8.held hap2
      rw [List.map_set, List.map_set, Hhs.out] at hh9
      have hb9 : Below w.heap.size w (w7.setCell ⟨g, K + 1, none⟩ (.slice ya n yc)) := (Hb5.out.trans (Hb7.out.mono Hb5.out.size)).setCell (p := ⟨g, K + 1, none⟩) (Nat.le_trans Hb1.out.size HgN.out) _
      have Hh9 := Lib.hid hh9; have Hb9 := Lib.hid hb9
      clear hh8 hap1 hap2 hh9 hb9
      go_wp2
      go_ret2
      obtain ⟨ga, gc, he, hgc', hgm', hg⟩ := Hh9.out.done
      have hls : ((L.set K X).set (K + 1) p).length = L.length := by simp
      rw [hls] at he hgc'
      cases he
      exact ⟨_, _, by rw [hls]; rfl, by rw [hls]; exact hgc', hgm', hg.mono Hb1.out.size (Nat.le_refl _), Hb9.out⟩
    · have hno : ¬ Br.BraidOk L k := fun h => h01 h.2
      rw [decide_eq_false h01] at hI
      rw [Br.braid_not hno, decide_eq_false hno]
      have HcP := Lib.hid hcP; have HI := Lib.hid hI
      clear hcP hI hP ha hL hno h01
      go_enter Try.func61, Try.ntmps61
      go_wp2_with fail
      refine HcP.out.mono ?_
      rintro e w1 ⟨rfl, hb1⟩
      have Hb1 := Lib.hid hb1; clear hb1
      go_wp2_with fail
      refine (HI.out _).mono ?_
      rintro e w0 ⟨rfl, hw0⟩
      rw [hw0]; clear hw0 w0
      go_wp2
      go_ret2
      exact GivesRows2.none (Hb1.out.alloc Hb1.out.size _) (by unfold maxLen; omega)
  · have hno : ¬ Br.BraidOk L k := fun h => hP h.1
    rw [decide_eq_false hP] at hcP
    rw [Br.braid_not hno, decide_eq_false hno]
    have HcP := Lib.hid hcP
    clear hcP hP ha hL hno
    go_enter Try.func61, Try.ntmps61
    go_wp2_with fail
    refine HcP.out.mono ?_
    rintro e w1 ⟨rfl, hb1⟩
    have Hb1 := Lib.hid hb1; clear hb1
    go_wp2
    go_ret2
    exact GivesRows2.none (Hb1.out.alloc Hb1.out.size _) (by unfold maxLen; omega)
theorem Br.mates_snoc (i : Nat) : Br.mates (i + 1) = Br.mates i ++ [((Mp.mate i : Nat) : Int)] := by unfold Br.mates Cls.row; rw [List.range_succ, List.map_append]; rfl
set_option maxRecDepth 10000 in
set_option maxHeartbeats 2000000 in
theorem spec_MapPassport (a : Option Addr) (c : Nat) (m : List Int) (w : World) (ha : RowAt w a (intCells m)) (hl : m.length ≤ 1048576) :
    Calls Try.prog 63 #[.slice a m.length c] w fun e w' => GivesRows2 w (Br.mapPass m) (decide (Br.MapOk m)) e w' := by
  have hM := spec_IsMap a c m w ha hl
  by_cases hm : Mp.IsM m
  · rw [decide_eq_true hm] at hM
    by_cases h5 : m.length ≤ 5
    · have dgt : ¬ (5 : Int) < (m.length : Int) := by omega
      rw [← (Br.map_closed hm).1, ← (Br.map_closed hm).2]
      obtain ⟨i0, hi0, hz0, hz1, hz2⟩ := info_int_parts
      have Hi0 := Lib.hid hi0; have Hz0 := Lib.hid hz0; have Hz1 := Lib.hid hz1; have Hz2 := Lib.hid hz2
      have hC := fun ga W (h : GridAt W ga [m, Br.mates m.length]) => spec_CloseUp ga 2 [m, Br.mates m.length] W h (fun p hp => by
        simp only [List.mem_cons, List.not_mem_nil, or_false] at hp
        rcases hp with rfl | rfl
        · exact hl
        · rw [Br.mates_len]; exact hl) (by simp)
      rw [show [m, Br.mates m.length].length = 2 from rfl] at hC
      have hml := Br.mates_len m.length
      generalize decide (Br.CloseOk [m, Br.mates m.length]) = B at *
      generalize Br.closed [m, Br.mates m.length] = Z at *
      have HM := Lib.hid hM; have HC := Lib.hid hC; have Hml := Lib.hid hml; have Ha := Lib.hid ha
      clear hM hC hml ha hm hi0 hz0 hz1 hz2
      go_enter Try.func63, Try.ntmps63
      go_wp2_with fail
      refine HM.out.mono ?_
      rintro e w1 ⟨rfl, hb1⟩
      have Hb1 := Lib.hid hb1
      have Hm := Lib.hid (own_made (w := w1) rfl)
      have HbA := Lib.hid (hb1.alloc hb1.size (.cells #[] 3))
      obtain ⟨N, hN⟩ : ∃ N, w1.heap.size = N := ⟨_, rfl⟩
      have HN := Lib.hid hN
      have hwN : w.heap.size ≤ N := by rw [← hN]; exact hb1.size
      rw [hN] at Hm
      have HsA := Lib.hid (show N ≤ (w1.alloc (.cells #[] 3)).heap.size by rw [← hN]; simp)
      clear hb1 hN
      go_wp2
      go_loopw [4, 5] (fun ov kv wr => ∃ i : Nat, i ≤ m.length ∧ kv = .int .i64 i ∧ wr.ownsRow N 3 1 ov i (intCells (Br.mates i)) ∧ Hid (Below w.heap.size w wr ∧ N ≤ wr.heap.size)) (fun _ kv _ => m.length - (intOf kv).toNat)
      case atStart => exact ⟨0, by omega, rfl, by rw [HN.out]; exact Hm.out, Lib.hid ⟨HbA.out, HsA.out⟩⟩
      case round =>
        obtain ⟨i, hi, rfl, hown, hh⟩ := hrel
        by_cases hlt : i < m.length
        · have dlt : decide (i < m.length) = true := decide_eq_true hlt
          have Hsn := Lib.hid (Br.mates_snoc i)
          have hmt := fun W => spec_l6Mate i _ rfl W (by omega)
          generalize Mp.mate i = mt at *
          have Hmt := Lib.hid hmt
          have hq1 : i + 1 ≤ maxLen := by unfold maxLen; omega
          have hq2 : (i + 1) * 8 ≤ 140737488355328 := by omega
          obtain ⟨av, cv, rfl⟩ := own_len hown
          have hN4 := hh.out.2
          clear hmt
          go_wp2_with fail
          refine (Hmt.out _).mono ?_
          rintro e w0 ⟨rfl, hw0⟩
          rw [hw0]; clear hw0 w0
          go_wp2_with (at_builtin; refine append_one rfl (.tmp 24) (.tmp 27) 42 rfl N 3 i0 _ 8 Try.underlying42 Hi0.out Hz0.out Hz1.out Hz2.out (by rfl) _ _ _ rfl hown (by rfl) _ rfl hq1 hq2 hN4 ?_; intro v1 w5 hown5 hg5 _)
          go_roundw
          case rel =>
            refine ⟨i + 1, by omega, by go_num, ?_, Lib.hid ⟨?_, ?_⟩⟩
            · rw [Hsn.out, ← intCells_snoc]; exact hown5
            · exact Below.grown (hh.out.1.alloc hh.out.1.size _) hg5 (by have := hh.out.1.size; simp; omega) (fun k hk => by have h1 := (hown.lt k hk).1; omega)
            · have := hg5.size; simp at this; omega
          case measure => simp [intOf]; omega
        · obtain rfl : i = m.length := by omega
          have dlt : decide (m.length < m.length) = false := decide_eq_false (by omega)
          obtain ⟨av, cv, rfl⟩ := own_len hown
          have Hown := Lib.hid hown
          have Hh := Lib.hid hh.out.1
          have hal : Below wr.heap.size wr (wr.alloc (.cells #[] 3)) := (Below.refl _ _).alloc (Nat.le_refl _) _
          have hbal := hh.out.1.trans (hal.mono hh.out.1.size)
          have Hmk := Lib.hid (own_made (w := wr) rfl)
          have HrM := Lib.hid (Ha.out.below hbal)
          have Hal := Lib.hid hal; have Hbal := Lib.hid hbal
          have Hl2 := Lib.hid (intCells_len m)
          have a7 : 0 + m.length ≤ maxLen := by unfold maxLen; omega
          have a8 : (0 + m.length) * 8 ≤ 140737488355328 := by omega
          clear hown hh hal hbal
          go_wp2_with (at_builtin; refine append_row rfl (.tmp 30) (.tmp 31) 42 rfl wr.heap.size 3 i0 _ 8 Try.underlying42 Hi0.out Hz0.out Hz1.out Hz2.out (by rfl) _ 0 (intCells []) rfl Hmk.out a m.length _ (intCells m) rfl HrM.out Hl2.out (intCells_one _) a7 a8 Hal.out.size ?_; intro v7 w7 hown7 hg7; have hb7 : Below wr.heap.size wr w7 := Below.grown Hal.out hg7 (Nat.le_trans (Nat.le_refl _) Hal.out.size) (fun j hj => (Hmk.out.lt j hj).1); rw [Nat.zero_add] at hown7; obtain ⟨ya, yc, rfl, hyc, hyf⟩ := own_fresh hown7 Hl2.out; have hmr := own_keep Hown.out hb7 (fun k hk => (Hown.out.lt k hk).2); have Hmr := Lib.hid hmr; have Hb7 := Lib.hid (Hh.out.trans (hb7.mono Hh.out.size)); have Hyf := Lib.hid hyf.row; clear hown7 hg7 hb7 hyc hyf hmr)
          have hmrow : RowAt w7 av (intCells (Br.mates m.length)) := by
            obtain ⟨a', c', he, _, hf⟩ := own_fresh Hmr.out (by rw [intCells_len, Hml.out])
            cases he
            exact hf.row
          have Hg := Lib.hid (grid_lit2 (c1 := yc) (c2 := cv) Hyf.out hmrow rfl Hml.out)
          have Hal8 := Lib.hid (Hb7.out.alloc Hb7.out.size (.cells #[.slice ya m.length yc, .slice av m.length cv] 42))
          clear hmrow
          go_wp2_with fail
          refine (HC.out _ _ Hg.out).mono ?_
          rintro e w8 ⟨ga, gc, rfl, hgc, hgm, hg3, hb3⟩
          have Hg3 := Lib.hid (hg3.mono Hal8.out.size (Nat.le_refl _)); have Hb3 := Lib.hid (Hal8.out.trans (hb3.mono Hal8.out.size))
          clear hg3 hb3
          go_wp2
          go_ret2
          exact ⟨ga, gc, rfl, hgc, hgm, Hg3.out, Hb3.out⟩
    · have dgt : (5 : Int) < (m.length : Int) := by omega
      rw [Br.map_not fun h => h5 h.2, decide_eq_false fun h : Br.MapOk m => h5 h.2]
      have HM := Lib.hid hM
      clear hM hm ha h5
      go_enter Try.func63, Try.ntmps63
      go_wp2_with fail
      refine HM.out.mono ?_
      rintro e w1 ⟨rfl, hb1⟩
      have Hb1 := Lib.hid hb1; clear hb1
      go_wp2
      go_ret2
      exact GivesRows2.none (Hb1.out.alloc Hb1.out.size _) (by unfold maxLen; omega)
  · rw [decide_eq_false hm] at hM
    rw [Br.map_not fun h => hm h.1, decide_eq_false fun h : Br.MapOk m => hm h.1]
    have HM := Lib.hid hM
    clear hM hm ha
    go_enter Try.func63, Try.ntmps63
    go_wp2_with fail
    refine HM.out.mono ?_
    rintro e w1 ⟨rfl, hb1⟩
    have Hb1 := Lib.hid hb1; clear hb1
    go_wp2
    go_ret2
    exact GivesRows2.none (Hb1.out.alloc Hb1.out.size _) (by unfold maxLen; omega)
end Go.Proofs.Ytpebgompfgkljaa
