/-
  The walks of the program's and the model's EdgeLetters, FreeLetters.
-/
import Derived.Test.YtodgongemoabiaaDoorBase
import Derived.Test.YtodgongemoabiaaDoorSlice
import Derived.Test.YtodgongemoabiaaDoorInts
import Derived.Test.YtodgongemoabiaaDoorWord
import Derived.Test.YtodgongemoabiaaDoorGrid
import Derived.Test.YtodgongemoabiaaDoorGlue
import Derived.Test.YtodgongemoabiaaDoorIsWord
import Derived.Test.YtodgongemoabiaaDoorUses
import Derived.Test.YtodgongemoabiaaDoorUses2
import Derived.Test.YtodgongemoabiaaDoorIsGluing
import Derived.Test.YtodgongemoabiaaDoorOwn
namespace Go.Proofs.YtodgongemoabiaaDoor
open Go.RowKit

set_option maxRecDepth 10000 in
set_option maxHeartbeats 1000000 in
theorem spec_l3Letters (a : Option Addr) (c : Nat) (L : List (List Int)) (lo hi : Int) (w : World) (ha : GridAt w a L) (hw : ∀ p ∈ L, Word.IsW p) (hs : sumLen L ≤ 1000) (hn : L.length ≤ 1000) (h1 : 1 ≤ lo) :
    Calls Tryd.prog 54 #[.slice a L.length c, .int .i64 lo, .int .i64 hi] w fun e w' => Gives w (Glue.letters L lo hi) e w' := by
  have hU := fun W (h : GridAt W a L) => spec_l3Uses a c L W h hw hs hn
  have hone := Glue.lettersTo_one hw (hi := hi) h1
  have hin := fun m => Glue.lettersTo_in (L := L) (lo := lo) (hi := hi) (m := m)
  have hout := fun m => Glue.lettersTo_out (L := L) (lo := lo) (hi := hi) (m := m)
  have hlen := Glue.lettersTo_len L lo hi
  have hulen := Glue.uses_len L
  obtain ⟨i0, hi0, hz0, hz1, hz2⟩ := info_int_parts
  have Hi0 := Lib.hid hi0; have Hz0 := Lib.hid hz0; have Hz1 := Lib.hid hz1; have Hz2 := Lib.hid hz2
  have HU := Lib.hid hU; have Hone := Lib.hid hone; have Ha := Lib.hid ha; have Hin := Lib.hid hin; have Hout := Lib.hid hout; have Hlen := Lib.hid hlen; have Hul := Lib.hid hulen
  clear hU hone hi0 hz0 hz1 hz2 ha hw hs hin hout hlen hulen
  generalize hN : w.heap.size = N at *
  have HN := Lib.hid hN
  unfold Glue.letters
  generalize hY : Glue.lettersTo L lo hi = Y at *
  generalize hUs : Glue.uses L = U at *
  clear hY hUs
  go_enter Tryd.func54, Tryd.ntmps54
  go_wp2_with fail
  have hb0 : Below N w (w.alloc (.cells #[] 3)) := by have h := (Below.refl w.heap.size w).alloc (Nat.le_refl _) (.cells #[] 3); rw [HN.out] at h; exact h
  refine (HU.out _ (Ha.out.below (by rw [HN.out]; exact hb0))).mono ?_
  rintro e w1 ⟨g, rfl, hg, hk, hb1⟩
  have hsz : (w.alloc (.cells #[] 3)).heap.size = N + 1 := by rw [← HN.out]; simp
  rw [hsz] at hg hb1
  have hown : w1.ownsRow N 3 1 (.slice (some ⟨N, 0, none⟩) 0 0) 0 (intCells []) := by
    have h := own_made HN.out
    rw [HN.out] at h
    exact own_keep h hb1 (fun k hk => by have := own_block hk; omega)
  have Hb01 := Lib.hid (hb0.trans (hb1.mono (Nat.le_succ N)))
  have Hk := Lib.hid hk; have Hown := Lib.hid hown; have Hg := Lib.hid hg
  clear hk hb0 hb1 hsz hown hg
  go_wp2
  go_loopw [7, 9] (fun ov kv wr => ∃ k : Nat, 1 ≤ k ∧ k ≤ 9 ∧ kv = .int .i64 k ∧ Below N w wr ∧ wr.ownsRow N 3 1 ov (Y k).length (intCells (Y k)) ∧ Hid (Blk wr g 3 (intCells U).toArray ∧ Off ov g)) (fun _ kv _ => 9 - (intOf kv).toNat)
  case atStart => exact ⟨1, by omega, by omega, rfl, Hb01.out, by rw [Hone.out]; exact Hown.out, Lib.hid ⟨Hk.out, fun k hk => by have := own_block hk; have := Hg.out; omega⟩⟩
  case round =>
    obtain ⟨k, hk1, hk9, rfl, hb, hown, hu⟩ := hrel
    by_cases hkt : k < 9
    · have hcell := ints_cell hu.out.1 (j := k) (by rw [Hul.out]; exact hkt)
      have hI := fun W => spec_l1In (U.getD k 0) lo hi W
      have hyes := Hin.out k
      have hno := Hout.out k
      have hlk := Hlen.out k
      generalize U.getD k 0 = x at *
      have hkc : (k : Int) < 9 := by omega
      have hNle : N ≤ wr.heap.size := by have := hb.size; rw [HN.out] at this; exact this
      have hgw := hu.out.1.lt
      by_cases hc : lo ≤ x ∧ x ≤ hi
      · have hI2 := hI; rw [decide_eq_true hc] at hI2
        have HI := Lib.hid hI2; have Hst := Lib.hid (hyes hc); have Hhc := Lib.hid hc
        clear hI hyes hno hI2 hc
        generalize hX : Y k = X at *
        generalize hX' : Y (k + 1) = X' at *
        have HX' := Lib.hid hX'
        clear hX hX'
        obtain ⟨av, cv, rfl⟩ := own_len hown
        have hc1 : X.length + 1 ≤ maxLen := by unfold maxLen; omega
        have hc2 : (X.length + 1) * 8 ≤ 140737488355328 := by omega
        have Hgw := Lib.hid hgw; clear hgw hlk
        go_wp2_with fail
        refine (HI.out _).mono ?_
        rintro e w2 ⟨rfl, rfl⟩
        go_wp2_with (at_builtin; refine append_one_new rfl (.tmp 26) (.tmp 28) 46 rfl N 3 i0 _ 8 Tryd.underlying46 Hi0.out Hz0.out Hz1.out Hz2.out (by rfl) _ _ _ rfl hown (by rfl) _ rfl hc1 hc2 hNle ?_; intro v1 w1 hown1 hg1 hblk)
        go_roundw
        case rel =>
          refine ⟨k + 1, by omega, by omega, by go_num, Below.grown (hb.alloc hNle _) hg1 (by simp; omega) (fun k hk => (hown.lt k hk).1), ?_, Lib.hid ⟨?_, ?_⟩⟩
          · rw [HX'.out, Hst.out, ← intCells_snoc, List.length_append]; exact hown1
          · exact (hu.out.1.alloc _).off hg1 hu.out.2
          · exact hu.out.2.next (by have := Hgw.out; simp; omega) hblk
        case measure => simp [intOf]; omega
      · have hI2 := hI; rw [decide_eq_false hc] at hI2
        have HI := Lib.hid hI2; have Hst := Lib.hid (hno hc); have Hhc := Lib.hid hc
        clear hI hyes hno hI2 hc hlk hgw
        go_wp2_with fail
        refine (HI.out _).mono ?_
        rintro e w2 ⟨rfl, rfl⟩
        go_wp2
        go_roundw
        case rel =>
          refine ⟨k + 1, by omega, by omega, by go_num, hb, ?_, hu⟩
          rw [Hst.out]; exact hown
        case measure => simp [intOf]; omega
    · obtain rfl : k = 9 := by omega
      have Hown := Lib.hid hown; clear hown
      go_wp2
      go_ret
      exact own_gives (by rw [HN.out]; exact Hown.out) rfl (by rw [HN.out]; exact hb)

set_option maxRecDepth 10000 in
set_option maxHeartbeats 1000000 in
theorem impl_lettersWithCount (a : Option Addr) (c : Nat) (L : List (List Int)) (lo hi : Int) (w : World) (ha : GridAt w a L) (hl : tot L ≤ 1048576) (h1 : 1 ≤ lo) :
    Calls Tryd.prog 83 #[.slice a L.length c, .int .i64 lo, .int .i64 hi] w fun e w' => Gives w (if Glue.IsG L then Glue.letters L lo hi else []) e w' := by
  have hG := fun W (h : GridAt W a L) => impl_IsGluing a c L W h hl
  generalize hv : (if Glue.IsG L then Glue.letters L lo hi else []) = V
  by_cases hg : Glue.IsG L
  · rw [if_pos hg] at hv
    rw [decide_eq_true hg] at hG
    have hU := fun W (h : GridAt W a L) => impl_countLetters a c L W h hg.w (Nat.le_trans hg.2.2.2.1 (by decide)) (Nat.le_trans hg.2.1 (by decide))
    have hin := fun m => Glue.lettersTo_in (L := L) (lo := lo) (hi := hi) (m := m)
    have hout := fun m => Glue.lettersTo_out (L := L) (lo := lo) (hi := hi) (m := m)
    have hlen := Glue.lettersTo_len L lo hi
    have hzero := Glue.lettersTo_zero L lo hi
    have hix := fun k (hk : k < 9) W => arr_index (Glue.uses L) (Glue.uses_len L) k hk W
    obtain ⟨i0, hi0, hz0, hz1, hz2⟩ := info_int_parts
    have Hi0 := Lib.hid hi0; have Hz0 := Lib.hid hz0; have Hz1 := Lib.hid hz1; have Hz2 := Lib.hid hz2
    have HG := Lib.hid hG; have HU := Lib.hid hU; have Ha := Lib.hid ha; have Hin := Lib.hid hin; have Hout := Lib.hid hout; have Hlen := Lib.hid hlen; have Hix := Lib.hid hix; have Hzero := Lib.hid hzero
    clear hG hU hi0 hz0 hz1 hz2 ha hin hout hlen hix hl hg hzero
    unfold Glue.letters at hv
    generalize hN : w.heap.size = N at *
    have HN := Lib.hid hN
    generalize hY : Glue.lettersTo L lo hi = Y at *
    generalize hUs : Glue.uses L = U at *
    have Hv := Lib.hid hv
    clear hY hUs hv
    go_enter Tryd.func83, Tryd.ntmps83
    go_wp2_with fail
    refine (HG.out w Ha.out).mono ?_
    rintro e w1 ⟨rfl, hb1⟩
    rw [HN.out] at hb1
    go_wp2_with fail
    refine (HU.out w1 (Ha.out.below (by rw [HN.out]; exact hb1))).mono ?_
    rintro e w2 ⟨rfl, hb2⟩
    have Hb := Lib.hid (hb1.trans (hb2.mono (by have := hb1.size; rw [HN.out] at this; exact this)))
    clear hb1 hb2
    go_wp2
    go_loopw [7, 8, 9, 15] (fun ov _ _ kv wr => ∃ k : Nat, k ≤ 9 ∧ kv = .int .i64 k ∧ Below N w wr ∧ wr.ownsRow N 3 1 ov (Y k).length (intCells (Y k))) (fun _ _ _ kv _ => 9 - (intOf kv).toNat)
    case atStart => exact ⟨0, by omega, rfl, Hb.out, by rw [Hzero.out]; exact World.ownsRow_nil _ _ _ _⟩
    case round =>
      obtain ⟨k, hk9, rfl, hb, hown⟩ := hrel
      by_cases hkt : k < 9
      · have hix := Hix.out k hkt
        have hyes := Hin.out k
        have hno := Hout.out k
        have hlk := Hlen.out k
        generalize U.getD k 0 = x at *
        have hkc : (k : Int) < 9 := by omega
        have hNle : N ≤ wr.heap.size := by have := hb.size; rw [HN.out] at this; exact this
        by_cases hc1 : lo ≤ x
        · by_cases hc2 : x ≤ hi
          · have Hst := Lib.hid (hyes ⟨hc1, hc2⟩)
            clear hyes hno
            generalize hX : Y k = X at *
            generalize hX' : Y (k + 1) = X' at *
            have HX' := Lib.hid hX'
            clear hX hX'
            obtain ⟨av, cv, rfl⟩ := own_len hown
            have hm1 : X.length + 1 ≤ maxLen := by unfold maxLen; omega
            have hm2 : (X.length + 1) * 8 ≤ 140737488355328 := by omega
            clear hlk
            go_wp2_with (at_builtin; refine append_one rfl (.tmp 27) (.tmp 29) 46 rfl N 3 i0 _ 8 Tryd.underlying46 Hi0.out Hz0.out Hz1.out Hz2.out (by rfl) _ _ _ rfl hown (by rfl) _ rfl hm1 hm2 hNle ?_; intro v1 w1 hown1 hg1 _)
            go_roundw
            case rel =>
              refine ⟨k + 1, by omega, by go_num, Below.grown (hb.alloc hNle _) hg1 (by simp; omega) (fun k hk => (hown.lt k hk).1), ?_⟩
              rw [HX'.out, Hst.out, ← intCells_snoc, List.length_append]; exact hown1
            case measure => simp [intOf]; omega
          · have Hst := Lib.hid (hno (fun h => hc2 h.2))
            clear hyes hno hlk
            go_wp2
            go_roundw
            case rel =>
              refine ⟨k + 1, by omega, by go_num, hb, ?_⟩
              rw [Hst.out]; exact hown
            case measure => simp [intOf]; omega
        · have Hst := Lib.hid (hno (fun h => hc1 h.1))
          clear hyes hno hlk
          go_wp2
          go_roundw
          case rel =>
            refine ⟨k + 1, by omega, by go_num, hb, ?_⟩
            rw [Hst.out]; exact hown
          case measure => simp [intOf]; omega
      · obtain rfl : k = 9 := by omega
        have Hown := Lib.hid hown; clear hown
        go_wp2
        go_ret
        rw [← Hv.out]
        exact own_gives (by rw [HN.out]; exact Hown.out) rfl (by rw [HN.out]; exact hb)
  · rw [if_neg hg] at hv
    rw [decide_eq_false hg] at hG
    have HG := Lib.hid hG; have Ha := Lib.hid ha; have Hv := Lib.hid hv
    clear hG ha hl hg hv
    go_enter Tryd.func83, Tryd.ntmps83
    go_wp2_with fail
    refine (HG.out w Ha.out).mono ?_
    rintro e w1 ⟨rfl, hb1⟩
    go_wp2
    go_ret
    rw [← Hv.out]
    exact Gives.none hb1

set_option maxRecDepth 10000 in
theorem impl_EdgeLetters (a : Option Addr) (c : Nat) (L : List (List Int)) (w : World) (ha : GridAt w a L) (hl : tot L ≤ 1048576) :
    Calls Tryd.prog 65 #[.slice a L.length c] w fun e w' => Gives w (Glue.edgeLetters L) e w' := by
  have h := impl_lettersWithCount a c L 1 2 w ha hl (by omega)
  rw [show (if Glue.IsG L then Glue.letters L 1 2 else []) = Glue.edgeLetters L from rfl] at h
  generalize Glue.edgeLetters L = Y at *
  have hc := Lib.hid h
  clear h
  go_enter Tryd.func65, Tryd.ntmps65
  go_wp2_with fail
  refine hc.out.mono ?_
  rintro e w1 ⟨ra, rc, rfl, h1, h2, h3, h4⟩
  have H3 := Lib.hid h3; clear h3
  go_wp2
  go_ret
  exact ⟨ra, rc, rfl, h1, h2, H3.out, h4⟩

set_option maxRecDepth 10000 in
theorem impl_FreeLetters (a : Option Addr) (c : Nat) (L : List (List Int)) (w : World) (ha : GridAt w a L) (hl : tot L ≤ 1048576) :
    Calls Tryd.prog 67 #[.slice a L.length c] w fun e w' => Gives w (Glue.freeLetters L) e w' := by
  have h := impl_lettersWithCount a c L 1 1 w ha hl (by omega)
  rw [show (if Glue.IsG L then Glue.letters L 1 1 else []) = Glue.freeLetters L from rfl] at h
  generalize Glue.freeLetters L = Y at *
  have hc := Lib.hid h
  clear h
  go_enter Tryd.func67, Tryd.ntmps67
  go_wp2_with fail
  refine hc.out.mono ?_
  rintro e w1 ⟨ra, rc, rfl, h1, h2, h3, h4⟩
  have H3 := Lib.hid h3; clear h3
  go_wp2
  go_ret
  exact ⟨ra, rc, rfl, h1, h2, H3.out, h4⟩


end Go.Proofs.YtodgongemoabiaaDoor
