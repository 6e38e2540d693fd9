/-
  The walks of DualMap and MirrorMap, the program's and the model's.
-/
import Derived.Test.YtpgdmbolckogcaaBase
import Derived.Test.YtpgdmbolckogcaaSlice
import Derived.Test.YtpgdmbolckogcaaInts
import Derived.Test.YtpgdmbolckogcaaGrid
import Derived.Test.YtpgdmbolckogcaaOwn
import Derived.Test.YtpgdmbolckogcaaAppend
import Derived.Test.YtpgdmbolckogcaaClass
import Derived.Test.YtpgdmbolckogcaaLab
import Derived.Test.YtpgdmbolckogcaaMap
import Derived.Test.YtpgdmbolckogcaaMapA
import Derived.Test.YtpgdmbolckogcaaMapB
import Derived.StillTailTactics
import Derived.Deep.QuietTactic
import Derived.BigQuiet
namespace Go.Proofs.Ytpgdmbolckogcaa
open Go.RowKit

theorem row_snoc (f : Nat → Nat) (i : Nat) : Cls.row f i ++ [((f i : Nat) : Int)] = Cls.row f (i + 1) := by
  unfold Cls.row; rw [List.range_succ, List.map_append]; rfl
/-- A row that a call has made. -/
theorem lab_gives {w w' : World} {g n : Nat} {f : Nat → Nat} (h : Lab w' g f n) (hg : w.heap.size ≤ g) (hn : n ≤ maxLen) (hb : Below w.heap.size w w') : Gives w (Cls.row f n) (.returned (.slice (some ⟨g, 0, none⟩) n n)) w' := by
  obtain ⟨all, h1, h2⟩ := h
  refine ⟨_, n, by rw [Cls.row_len], by rw [Cls.row_len]; exact Nat.le_refl _, hn, Or.inr ⟨g, 0, all, rfl, hg, h1, fun i v hv => ?_⟩, hb⟩
  have hi : i < n := by
    have := (List.getElem?_eq_some_iff.1 hv).1
    rwa [intCells_len, Cls.row_len] at this
  rw [Nat.zero_add, h2 i hi]
  simp [intCells, Cls.row_get hi] at hv
  rw [← hv]

set_option maxRecDepth 10000 in
set_option maxHeartbeats 1000000 in
theorem spec_l6Dual (a : Option Addr) (c : Nat) (l : List Int) (w : World) (ha : RowAt w a (intCells l)) (hM : Mp.IsM l) :
    Calls Try.prog 69 #[.slice a l.length c] w fun e w' => Gives w (Mp.dual l) e w' := by
  obtain ⟨i0, hi0, hz0, hz1, hz2⟩ := info_int_parts
  have hn : l.length ≤ 24 := hM.2.1
  have hown0 := own_made (w := w) rfl
  have hb0 := (Below.refl w.heap.size w).alloc (Nat.le_refl _) (.cells #[] 3)
  have hfin : Mp.dual l = Cls.row (Mp.dualF l) l.length := rfl
  generalize Mp.dual l = D at *
  generalize hN : w.heap.size = N at *
  have HN := Lib.hid hN
  have Hi0 := Lib.hid hi0; have Hz0 := Lib.hid hz0; have Hz1 := Lib.hid hz1; have Hz2 := Lib.hid hz2
  have Hown0 := Lib.hid hown0; have Hb0 := Lib.hid hb0; have Ha := Lib.hid ha; have HM := Lib.hid hM; have Hfin := Lib.hid hfin
  clear hi0 hz0 hz1 hz2 hown0 hb0 ha hM hfin
  go_enter Try.func69, Try.ntmps69
  go_wp2
  go_loopw [3, 4] (fun ov iv wr => ∃ i : Nat, i ≤ l.length ∧ iv = .int .i64 i ∧ Hid (Below N w wr) ∧ wr.ownsRow N 3 1 ov i (intCells (Cls.row (Mp.dualF l) i))) (fun _ iv _ => l.length - (intOf iv).toNat)
  case atStart => exact ⟨0, by omega, rfl, Hb0, Hown0.out⟩
  case round =>
    obtain ⟨i, hi, rfl, hb, hown⟩ := hrel
    by_cases hlt : i < l.length
    · have hml := Mp.mate_lt HM.out.2.2.1 hlt
      have hx := Mp.at_get HM.out.2.2.2 hml
      obtain ⟨b, o, rfl, hbw, hcell⟩ := intCells_get? (Ha.out.below (by rw [HN.out]; exact hb.out)) hx
      have hc := fun W => spec_l6Mate i ((i : Nat) : Int) rfl W (by omega)
      have hsn := row_snoc (Mp.dualF l) i
      rw [show Mp.dualF l i = Mp.at_ l (Mp.mate i) from rfl] at hsn
      have hlen := Cls.row_len (Mp.dualF l) i
      generalize Mp.at_ l (Mp.mate i) = y at *
      generalize Mp.mate i = m at *
      generalize Cls.row (Mp.dualF l) i = X at *
      obtain ⟨av, cv, rfl⟩ := own_len hown
      have hNle : N ≤ wr.heap.size := by have := hb.out.size; rw [HN.out] at this; exact this
      have hc1 : i + 1 ≤ maxLen := by unfold maxLen; omega
      have hc2 : (i + 1) * 8 ≤ 140737488355328 := by omega
      have h0m : (0 : Int) ≤ (m : Int) := by omega
      have h1m : (m : Int) < (l.length : Int) := by omega
      have Hc := Lib.hid hc; have Hsn := Lib.hid hsn; have Hlen := Lib.hid hlen
      clear hc hsn hlen hx
      go_wp2_with fail
      refine (Hc.out _).mono ?_
      rintro e w1 ⟨rfl, rfl⟩
      go_wp2_with (at_builtin; refine append_one rfl (.tmp 12) (.tmp 18) 27 rfl N 3 i0 _ 8 Try.underlying27 Hi0.out Hz0.out Hz1.out Hz2.out (by rfl) _ _ _ rfl hown (by rfl) _ rfl hc1 hc2 hNle ?_; intro v1 w1 hown1 hg1 _)
      go_roundw
      case rel =>
        refine ⟨i + 1, by omega, by go_num, Lib.hid (Below.grown (hb.out.alloc hNle _) hg1 (by simp; omega) (fun k hk => (hown.lt k hk).1)), ?_⟩
        rw [← Hsn.out, ← intCells_snoc]; exact hown1
      case measure => simp [intOf]; omega
    · obtain rfl : i = l.length := by omega
      obtain ⟨av, cv, rfl⟩ := own_len hown
      have Hown := Lib.hid hown; clear hown
      go_wp2
      go_ret
      rw [Hfin.out]
      exact own_gives (by rw [HN.out]; exact Hown.out) (Cls.row_len _ _) (by rw [HN.out]; exact hb.out)


theorem own_zeros (w : World) (n : Nat) (hn : n ≤ 1000) : (w.alloc (.cells (intCells (Cls.row (fun _ => 0) n)).toArray 3)).ownsRow w.heap.size 3 1 (.slice (some ⟨w.heap.size, 0, none⟩) n n) n (intCells (Cls.row (fun _ => 0) n)) := by
  refine ⟨by rw [intCells_len, Cls.row_len, Nat.mul_one], Or.inr ⟨w.heap.size, n, _, rfl, Nat.le_refl _, heap_alloc_new w _, Nat.le_refl _, by unfold maxLen; omega, by simp [intCells_len, Cls.row_len], ?_⟩⟩
  simp only [Nat.mul_one, List.toList_toArray]
  rw [List.take_of_length_le (by rw [intCells_len, Cls.row_len]; exact Nat.le_refl _)]
/-- A row that is filled, and the pointer that leads to it. -/
theorem boxed {w : World} {n : Nat} (hn : n ≤ 1000) : Below w.heap.size w ((w.alloc (.cells (intCells (Cls.row (fun _ => 0) n)).toArray 3)).alloc (.cells #[.slice (some ⟨w.heap.size, 0, none⟩) n n] 45)) ∧
    ((w.alloc (.cells (intCells (Cls.row (fun _ => 0) n)).toArray 3)).alloc (.cells #[.slice (some ⟨w.heap.size, 0, none⟩) n n] 45)).ownsRow w.heap.size 3 1 (.slice (some ⟨w.heap.size, 0, none⟩) n n) n (intCells (Cls.row (fun _ => 0) n)) ∧
    Blk ((w.alloc (.cells (intCells (Cls.row (fun _ => 0) n)).toArray 3)).alloc (.cells #[.slice (some ⟨w.heap.size, 0, none⟩) n n] 45)) (w.heap.size + 1) 45 #[.slice (some ⟨w.heap.size, 0, none⟩) n n] := by
  refine ⟨((Below.refl _ _).alloc (Nat.le_refl _) _).alloc (by simp) _, (own_zeros w n hn).alloc _, ?_⟩
  have := Blk.new (w.alloc (.cells (intCells (Cls.row (fun _ => 0) n)).toArray 3)) 45 #[.slice (some ⟨w.heap.size, 0, none⟩) n n]
  simpa using this
/-- The darts below i are done. -/
def upto (f : Nat → Nat) (i : Nat) : Nat → Nat := fun k => if k < i then f k else 0
theorem upto_step (f : Nat → Nat) (i k : Nat) : (if k = i then f i else upto f i k) = upto f (i + 1) k := by
  unfold upto
  by_cases e : k = i
  · subst e; rw [if_pos rfl, if_pos (by omega)]
  · rw [if_neg e]
    by_cases e2 : k < i
    · rw [if_pos e2, if_pos (by omega)]
    · rw [if_neg e2, if_neg (by omega)]
set_option maxRecDepth 10000 in
set_option maxHeartbeats 2000000 in
theorem impl_dual (p lo n : Nat) (f : Nat → Nat) (w : World) (h : MapAt w lo p f n) (hn : n ≤ 24) (hev : n % 2 = 0) :
    Calls Try.prog 65 #[.pointer (some ⟨p, 0, none⟩)] w fun e w' => (∃ q, e = .returned (.pointer (some ⟨q, 0, none⟩)) ∧ MapAt w' w.heap.size q (fun d => f (Mp.mate d)) n) ∧ Below w.heap.size w w' := by
  obtain ⟨g, cap, hcell, hfz, hcap, hcm, hpg, hlop, hp, hlog, hg, hblk, hown⟩ := h.open
  have hmk := mk_zeros n (by omega)
  have hbx := boxed (w := w) (n := n) (by omega)
  generalize hN : w.heap.size = N at *
  have HN := Lib.hid hN
  have Hbx := Lib.hid hbx; have Hown := Lib.hid hown; have Hblk := Lib.hid hblk
  clear hbx hown hblk h
  go_enter Try.func65, Try.ntmps65
  go_wp2
  go_loopw [4, 18] (fun _ iv wr => ∃ i : Nat, i ≤ n ∧ iv = .int .i64 i ∧ Hid (Below N w wr) ∧ Hid (wr.ownsRow N 3 1 (.slice (some ⟨N, 0, none⟩) n n) n (intCells (Cls.row (upto (fun d => f (Mp.mate d)) i) n))) ∧ Hid (Blk wr (N + 1) 45 #[.slice (some ⟨N, 0, none⟩) n n])) (fun _ iv _ => n - (intOf iv).toNat)
  case atStart => exact ⟨0, by omega, rfl, Lib.hid Hbx.out.1, Lib.hid (by rw [row_congr (f' := fun _ => 0) fun k _ => by simp [upto]]; exact Hbx.out.2.1), Lib.hid Hbx.out.2.2⟩
  case round =>
    obtain ⟨i, hi, rfl, hb, hl, hq⟩ := hrel
    have hcell2 := (Hblk.out.below hb.out hp).cell 0
    have hq2 := hq.out.cell 0
    by_cases hlt : i < n
    · have hml := Mp.mate_lt hev hlt
      have hfc := ownRow_cell (own_keep Hown.out hb.out (fun k hk => by obtain rfl := own_block hk; exact hg)) hml
      have hdst := ownRow_cell hl.out hlt
      have hdz := hl.out.frozenAt i
      have hc := fun W => impl_mateOf i ((i : Nat) : Int) rfl W (by omega)
      have hput := ownRow_put (own_drewN hl.out 1) (f (Mp.mate i)) hlt
      have hstep := fun k => upto_step (fun d => f (Mp.mate d)) i k
      have hst := (below_drewN hb.out 1).setCell (p := ⟨N, i, none⟩) (Nat.le_refl _) (.int .i64 ((f (Mp.mate i) : Nat) : Int))
      have hqf := (hq.out.drewN 1).far (p := ⟨N, i, none⟩) (by show N + 1 ≠ N; omega) (.int .i64 ((f (Mp.mate i) : Nat) : Int))
      generalize f (Mp.mate i) = y at *
      generalize Mp.mate i = m at *
      generalize upto (fun d => f (Mp.mate d)) i i = z at hdst
      have h0m : (0 : Int) ≤ (m : Int) := by omega
      have h1m : (m : Int) < (n : Int) := by omega
      have h0i : (0 : Int) ≤ (i : Int) := by omega
      have h1i : (i : Int) < (n : Int) := by omega
      have Hc := Lib.hid hc; have Hput := Lib.hid hput; have Hstep := Lib.hid hstep; have Hst := Lib.hid hst; have Hqf := Lib.hid hqf
      clear hc hput hstep hst hqf
      go_wp2
      go_still_tail 14, (by kernel_rfl)
      still_call (Hc.out _)
      repeat still_step
      refine wpStill_nil ?_
      change wpList _ _ _ _ _ wr.drew
      go_wp2
      go_roundw
      case rel => exact ⟨i + 1, by omega, by go_num, Lib.hid Hst.out, Lib.hid (by rw [row_congr (f' := Mp.upd (upto (fun d => f (Mp.mate d)) i) i y) fun k _ => (Hstep.out k).symm]; exact Hput.out), Lib.hid Hqf.out⟩
      case measure => simp [intOf]; omega
    · obtain rfl : i = n := by omega
      have Hl := hl
      go_wp2
      go_ret
      refine ⟨⟨_, rfl, N, i, hq.out, ?_, Nat.le_succ N, Nat.le_refl _, by unfold maxLen; omega⟩, hb.out⟩
      rw [row_congr (f' := upto (fun d => f (Mp.mate d)) i) (fun k hk => by unfold upto; rw [if_pos hk])]
      exact Hl.out

theorem give_next {w w1 w2 : World} {q g n cap : Nat} {f : Nat → Nat} (h : w2.ownsRow w1.heap.size 3 1 (.slice (some ⟨g, 0, none⟩) n cap) n (intCells (Cls.row f n))) (hb : Below w.heap.size w w1) (hb2 : Below w1.heap.size w1 w2) : Gives w (Cls.row f n) (.returned (.slice (some ⟨g, 0, none⟩) n cap)) w2 :=
  (own_gives h (Cls.row_len _ _) hb2).later hb




end Go.Proofs.Ytpgdmbolckogcaa
