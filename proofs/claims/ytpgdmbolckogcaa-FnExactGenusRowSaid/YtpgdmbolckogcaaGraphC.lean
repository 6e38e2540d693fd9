/-
  The walks of the program's and the model's CompleteGraph, BipartiteGraph, RingGraph.
-/
import Derived.Test.YtpgdmbolckogcaaBase
import Derived.Test.YtpgdmbolckogcaaSlice
import Derived.Test.YtpgdmbolckogcaaIntRow
import Derived.Test.YtpgdmbolckogcaaInts
import Derived.Test.YtpgdmbolckogcaaOwn
import Derived.Test.YtpgdmbolckogcaaGrid
import Derived.Test.YtpgdmbolckogcaaGridWalk
import Derived.Test.YtpgdmbolckogcaaGridRows
import Derived.Test.YtpgdmbolckogcaaWord
import Derived.Test.YtpgdmbolckogcaaIsWord
import Derived.Test.YtpgdmbolckogcaaMapD
import Derived.Test.YtpgdmbolckogcaaGraph
import Derived.Test.YtpgdmbolckogcaaGraphA
import Derived.Test.YtpgdmbolckogcaaGraphA2
import Derived.Test.YtpgdmbolckogcaaGraphs
import Derived.Test.YtpgdmbolckogcaaRowsLit
import Derived.Deep.QuietTactic
import Derived.BigQuiet
namespace Go.Proofs.Ytpgdmbolckogcaa
open Go.RowKit

theorem GivesRows.after {w w1 w2 : World} {L : List (List Int)} {v : Value} (h : GivesRows w L (.returned v) w1) (hb : Below w1.heap.size w1 w2) : GivesRows w L (.returned v) w2 := by
  obtain ⟨a, c, e, h1, h2, h3, h4⟩ := h
  exact ⟨a, c, e, h1, h2, (h3.below hb).mono (Nat.le_refl _) hb.size, h4.trans (hb.mono h4.size)⟩
theorem GivesRows.form {w w1 : World} {L : List (List Int)} {v : Value} (h : GivesRows w L (.returned v) w1) : ∃ a c, v = .slice a L.length c ∧ GridAt w1 a L := by
  obtain ⟨a, c, e, h1, h2, h3, h4⟩ := h
  cases e; exact ⟨a, c, rfl, h3.grid⟩

set_option maxRecDepth 10000 in
set_option maxHeartbeats 400000 in
theorem impl_graphOrNil (a : Option Addr) (c : Nat) (L : List (List Int)) (w : World) (ha : GridAt w a L) (hl : tot L ≤ 1048576) :
    Calls Try.prog 53 #[.slice a L.length c] w fun e w' => e = .returned (if Gr.IsG L then .slice a L.length c else .slice none 0 0) ∧ Below w.heap.size w w' := by
  have hc := impl_IsGraph a c L w ha hl
  by_cases hG : Gr.IsG L
  · rw [decide_eq_true hG] at hc
    rw [if_pos hG]
    have Hc := Lib.hid hc; clear hc hG ha
    go_enter Try.func53, Try.ntmps53
    go_wp2_with fail
    refine Hc.out.mono ?_
    rintro e w1 ⟨rfl, hb⟩
    go_wp2
    go_ret
    exact ⟨rfl, hb⟩
  · rw [decide_eq_false hG] at hc
    rw [if_neg hG]
    have Hc := Lib.hid hc; clear hc hG ha
    go_enter Try.func53, Try.ntmps53
    go_wp2_with fail
    refine Hc.out.mono ?_
    rintro e w1 ⟨rfl, hb⟩
    go_wp2
    go_ret
    exact ⟨rfl, hb⟩
/-- Rows that were made are a graph, or nothing is handed back. -/
theorem impl_graphOrNil_made (v : Value) (L : List (List Int)) (w w1 : World) (h : GivesRows w L (.returned v) w1) (hl : tot L ≤ 1048576) :
    Calls Try.prog 53 #[v] w1 fun e w' => (∃ a c, e = .returned (.slice a (Gr.right L).length c)) ∧ GivesRows w (Gr.right L) e w' := by
  obtain ⟨a, c, rfl, hg⟩ := h.form
  refine (impl_graphOrNil a c L w1 hg hl).mono ?_
  rintro e w2 ⟨rfl, hb⟩
  have h2 := h.after hb
  unfold Gr.right
  by_cases hG : Gr.IsG L
  · rw [if_pos hG, if_pos hG]; exact ⟨⟨a, c, rfl⟩, h2⟩
  · rw [if_neg hG, if_neg hG]
    obtain ⟨_, _, _, _, _, _, hb4⟩ := h2
    exact ⟨⟨none, 0, rfl⟩, GivesRows.none hb4⟩
set_option maxRecDepth 10000 in
set_option maxHeartbeats 400000 in
theorem spec_l7Right (a : Option Addr) (c : Nat) (L : List (List Int)) (w : World) (ha : GridAt w a L) (hl : tot L ≤ 1048576) :
    Calls Try.prog 52 #[.slice a L.length c] w fun e w' => (∃ a' c', e = .returned (.slice a' (Gr.right L).length c') ∧ (Gr.IsG L → a' = a ∧ c' = c) ∧ (¬ Gr.IsG L → c' = 0)) ∧ Below w.heap.size w w' := by
  have hc := spec_IsGraph a c L w ha hl
  unfold Gr.right
  by_cases hG : Gr.IsG L
  · rw [decide_eq_true hG] at hc
    rw [if_pos hG]
    have Hc := Lib.hid hc; have HG := Lib.hid hG; clear hc hG ha
    go_enter Try.func52, Try.ntmps52
    go_wp2_with fail
    refine Hc.out.mono ?_
    rintro e w1 ⟨rfl, hb⟩
    go_wp2
    go_ret
    exact ⟨⟨_, _, rfl, fun _ => ⟨rfl, rfl⟩, fun h => absurd HG.out h⟩, hb⟩
  · rw [decide_eq_false hG] at hc
    rw [if_neg hG]
    have Hc := Lib.hid hc; have HG := Lib.hid hG; clear hc hG ha
    go_enter Try.func52, Try.ntmps52
    go_wp2_with fail
    refine Hc.out.mono ?_
    rintro e w1 ⟨rfl, hb⟩
    go_wp2
    go_ret
    exact ⟨⟨_, _, rfl, fun h => absurd h HG.out, fun _ => rfl⟩, hb.alloc hb.size _⟩
theorem spec_l7Right_made (v : Value) (L : List (List Int)) (w w1 : World) (h : GivesRows w L (.returned v) w1) (hl : tot L ≤ 1048576) :
    Calls Try.prog 52 #[v] w1 fun e w' => (∃ a c, e = .returned (.slice a (Gr.right L).length c)) ∧ GivesRows w (Gr.right L) e w' := by
  obtain ⟨a, c, rfl, hg⟩ := h.form
  refine (spec_l7Right a c L w1 hg hl).mono ?_
  rintro e w2 ⟨⟨a', c', rfl, hy, hn⟩, hb⟩
  have h2 := h.after hb
  refine ⟨⟨a', c', rfl⟩, ?_⟩
  unfold Gr.right
  by_cases hG : Gr.IsG L
  · obtain ⟨rfl, rfl⟩ := hy hG
    rw [if_pos hG]; exact h2
  · rw [hn hG, if_neg hG]
    obtain ⟨_, _, _, _, _, _, hb4⟩ := h2
    exact GivesRows.none hb4

namespace Gr
def compTo (k i J : Nat) : List (List Int) := two (fun i j => [((i : Nat) : Int), ((i + 1 + j : Nat) : Int)]) (fun i => k - (i + 1)) i (J - (i + 1))
theorem compTo_zero (k : Nat) : compTo k 0 1 = [] := rfl
theorem compTo_step {k i J : Nat} (h : i + 1 ≤ J) : compTo k i (J + 1) = compTo k i J ++ [[((i : Nat) : Int), ((J : Nat) : Int)]] := by
  unfold compTo
  rw [show J + 1 - (i + 1) = (J - (i + 1)) + 1 by omega, two_step, show i + 1 + (J - (i + 1)) = J by omega]
theorem compTo_next {k i : Nat} : compTo k i k = compTo k (i + 1) (i + 2) := by
  unfold compTo
  rw [show i + 2 - (i + 1 + 1) = 0 by omega]
  exact two_next _ (fun i => k - (i + 1)) i
theorem compTo_end (k : Nat) : compTo k k (k + 1) = complete k := by unfold compTo complete; rw [Nat.sub_self]
theorem compTo_len {k i J : Nat} (hk : k ≤ 9) (hi : i ≤ 9) (hJ : J ≤ 10) : (compTo k i J).length ≤ 1000 := by
  have := two_len (f := fun i j => [((i : Nat) : Int), ((i + 1 + j : Nat) : Int)]) (n := fun i => k - (i + 1)) (B := 9) (fun a => by show k - (a + 1) ≤ 9; omega) i (J - (i + 1))
  unfold compTo; omega
theorem two_rows {f : Nat → Nat → List Int} {n : Nat → Nat} (hf : ∀ i j, (f i j).length = 2) {i j : Nat} : ∀ r ∈ two f n i j, r.length = 2 := by
  intro r hr
  unfold two at hr
  rcases List.mem_append.1 hr with hr | hr
  · obtain ⟨a, _, h⟩ := List.mem_flatMap.1 hr
    obtain ⟨b, _, rfl⟩ := List.mem_map.1 h
    exact hf _ _
  · obtain ⟨b, _, rfl⟩ := List.mem_map.1 hr
    exact hf _ _
theorem tot_pairs {L : List (List Int)} (h : ∀ r ∈ L, r.length = 2) : tot L = 3 * L.length := by
  unfold tot sumLen
  have : L.map List.length = L.map fun _ => 2 := List.map_congr_left fun e he => h e he
  rw [this, List.map_const', List.sum_replicate_nat]; omega
theorem complete_tot {k : Nat} (hk : k ≤ 9) : tot (complete k) ≤ 1048576 := by
  rw [tot_pairs (L := complete k) (two_rows fun _ _ => rfl), ← compTo_end]
  have := compTo_len (k := k) (i := k) (J := k + 1) hk hk (by omega)
  omega
def bipTo (a b i j : Nat) : List (List Int) := two (fun i j => [((i : Nat) : Int), ((a + j : Nat) : Int)]) (fun _ => b) i j
theorem bipTo_step {a b i j : Nat} : bipTo a b i (j + 1) = bipTo a b i j ++ [[((i : Nat) : Int), ((a + j : Nat) : Int)]] := two_step _ _ _ _
theorem bipTo_next {a b i : Nat} : bipTo a b i b = bipTo a b (i + 1) 0 := two_next _ (fun _ => b) i
theorem bipTo_len {a b i j : Nat} (hb : b ≤ 9) (hi : i ≤ 9) (hj : j ≤ 10) : (bipTo a b i j).length ≤ 1000 := by
  have := two_len (f := fun i j => [((i : Nat) : Int), ((a + j : Nat) : Int)]) (n := fun _ => b) (B := 9) (fun _ => hb) i j
  unfold bipTo; omega
theorem bip_tot {a b : Nat} (ha : a ≤ 9) (hb : b ≤ 9) : tot (bip a b) ≤ 1048576 := by
  rw [tot_pairs (L := bip a b) (two_rows fun _ _ => rfl)]
  have := bipTo_len (a := a) (b := b) (i := a) (j := 0) hb ha (by omega)
  unfold bip; unfold bipTo at this; omega
theorem ringTo_tot {n i : Nat} (hi : i ≤ 9) : tot (ringTo_ n i) ≤ 1048576 := by
  rw [tot_pairs (L := ringTo_ n i) (fun r hr => by unfold ringTo_ at hr; obtain ⟨b, _, rfl⟩ := List.mem_map.1 hr; rfl), ringTo_len]; omega
end Gr

set_option maxRecDepth 10000 in
set_option maxHeartbeats 4000000 in
theorem impl_CompleteGraph (n : Int) (w : World) (_ : -9223372036854775808 ≤ n) (_ : n ≤ 9223372036854775807) :
    Calls Try.prog 32 #[.int .i64 n] w fun e w' => GivesRows w (Gr.completeOf n) e w' := by
  by_cases h7 : 7 < n
  · rw [Gr.complete_far h7]
    go_enter Try.func32, Try.ntmps32
    go_wp2
    go_ret
    exact GivesRows.none (Below.refl _ _)
  rw [Gr.complete_near h7]
  obtain ⟨k, hk⟩ : ∃ k, n.toNat = k := ⟨_, rfl⟩
  rw [hk]
  have hk7 : k ≤ 7 := by omega
  have hend := Gr.complete_tot (k := k) (by omega)
  have hin : ∀ i : Nat, i < k ↔ (i : Int) < n := fun i => by omega
  obtain ⟨i1, hi1, hy0, hy1, hy2⟩ := info_ints_parts
  have Hi1 := Lib.hid hi1; have Hy0 := Lib.hid hy0; have Hy1 := Lib.hid hy1; have Hy2 := Lib.hid hy2
  clear hi1 hy0 hy1 hy2
  have Hend := Lib.hid hend; have Hin := Lib.hid hin
  clear hend hk hin
  obtain ⟨N, hN⟩ : ∃ N, N = w.heap.size := ⟨_, rfl⟩
  have HN := Lib.hid hN; clear hN
  go_enter Try.func32, Try.ntmps32
  go_wp2
  go_loopw [3, 4, 5, 9] (fun gv _ _ iv wr => ∃ i : Nat, i ≤ k ∧ iv = .int .i64 i ∧ Hid (RowsIn w N wr gv (Gr.compTo k i (i + 1)))) (fun _ _ _ iv _ => k - (intOf iv).toNat)
  case atStart => exact ⟨0, by omega, rfl, Lib.hid (RowsIn.nil (Below.refl _ _ |>.mono (by rw [HN.out]; exact Nat.le_refl _)))⟩
  case round =>
    obtain ⟨i, hi, rfl, hrows⟩ := hrel
    obtain ⟨wo, hwo⟩ : ∃ wo, wo = wr := ⟨_, rfl⟩
    by_cases hlt : i < k
    · have d1 : (i : Int) < n := (Hin.out i).1 hlt
      have h9 : (i : Int) ≤ 9 := by omega
      have Hlt := Lib.hid hlt
      clear hlt
      go_wp2
      go_loopw [3, 5] (fun gv jv wr => ∃ J : Nat, i + 1 ≤ J ∧ J ≤ k ∧ jv = .int .i64 J ∧ Hid (RowsIn w N wr gv (Gr.compTo k i J))) (fun _ jv _ => k - (intOf jv).toNat)
      case atStart => exact ⟨i + 1, Nat.le_refl _, Hlt.out, by go_num, hrows⟩
      case round =>
        obtain ⟨J, hJ1, hJ2, rfl, hrows⟩ := hrel
        replace hrows := hrows.out
        have hNle : N ≤ wr.heap.size := hrows.size (by rw [HN.out]; exact Nat.le_refl _)
        have hln := Gr.compTo_len (k := k) (i := i) (J := J) (by omega) (by omega) (by omega)
        have hq1 : (Gr.compTo k i J).length + 1 ≤ maxLen := by unfold maxLen; omega
        have hq2 : ((Gr.compTo k i J).length + 1) * 24 ≤ 140737488355328 := by omega
        by_cases hlt2 : J < k
        · have d2 : (J : Int) < n := (Hin.out J).1 hlt2
          have hst := Gr.compTo_step (k := k) hJ1
          have Hst := Lib.hid hst; have Hlt2 := Lib.hid hlt2; have HJ1 := Lib.hid hJ1
          clear hst hlt2 hln hJ1
          generalize Gr.compTo k i J = L1 at *
          obtain ⟨hs, e1, hown, hin, hap, hbl⟩ := hrows
          obtain ⟨av, cv, rfl⟩ := own_len hown
          have hown1 := hown.alloc (.cells #[.int .i64 (i : Int), .int .i64 (J : Int)] 3)
          have hK1 : (wr.alloc (.cells #[.int .i64 (i : Int), .int .i64 (J : Int)] 3)).heap.size = wr.heap.size + 1 := by simp
          have hN1 : N ≤ (wr.alloc (.cells #[.int .i64 (i : Int), .int .i64 (J : Int)] 3)).heap.size := by rw [hK1]; omega
          have Hm := Lib.hid (fun v3 w3 => RowsIn.more (w3 := w3) (v3 := v3) (x := (i : Int)) (y := (J : Int)) (c := 2) e1 hown hin hap hbl hNle (Nat.le_refl _))
          clear hin hap hbl
          have hown2 := hown1
          clear hown
          go_wp2_with (at_builtin; refine append_one_at (wr.heap.size + 1) hK1 rfl (.tmp 19) (.tmp 23) 22 rfl N 27 i1 _ 24 Try.underlying22 Hi1.out Hy0.out Hy1.out Hy2.out (by rfl) _ _ _ rfl hown2 (by rfl) _ rfl hq1 hq2 hN1 ?_; intro v3 w3 hown3 hg3 _; obtain ⟨a3, c3, rfl⟩ := own_len hown3)
          go_roundw
          case rel => exact ⟨J + 1, by have := HJ1.out; omega, Hlt2.out, by go_num, Lib.hid (by rw [Hst.out]; exact Hm.out _ _ hown3 hg3)⟩
          case measure => have := Hlt2.out; simp [intOf] <;> omega
        · obtain rfl : J = k := by omega
          have d2 : ¬ (J : Int) < n := fun h => hlt2 ((Hin.out J).2 h)
          clear hlt2 hln hq1 hq2
          go_wp2
          go_roundw
          case rel => exact ⟨i + 1, Hlt.out, by go_num, Lib.hid (by rw [← Gr.compTo_next]; exact hrows)⟩
          case measure => have := Hlt.out; simp [intOf] <;> omega
    · obtain rfl : i = k := by omega
      have d1 : ¬ (i : Int) < n := fun h => hlt ((Hin.out i).2 h)
      clear hlt
      have hg := (by have h := hrows.out; rw [Gr.compTo_end, HN.out] at h; exact h : RowsIn w w.heap.size wr _ (Gr.complete _)).gives
      have hM := impl_graphOrNil_made _ _ w wr hg Hend.out
      have HM := Lib.hid hM; clear hM hg
      go_wp2_with fail
      refine HM.out.mono ?_
      rintro e w1 ⟨⟨a1, c1, rfl⟩, hG⟩
      have HG := Lib.hid hG; clear hG
      go_wp2
      go_ret
      exact HG.out

set_option maxRecDepth 10000 in
set_option maxHeartbeats 4000000 in
theorem spec_CompleteGraph (n : Int) (w : World) (_ : -9223372036854775808 ≤ n) (_ : n ≤ 9223372036854775807) :
    Calls Try.prog 31 #[.int .i64 n] w fun e w' => GivesRows w (Gr.completeOf n) e w' := by
  unfold Gr.completeOf
  obtain ⟨k, hk⟩ : ∃ k, (min n 9).toNat = k := ⟨_, rfl⟩
  rw [hk]
  have hk7 : k ≤ 9 := by omega
  have hend := Gr.complete_tot (k := k) hk7
  have hin : ∀ i : Nat, i < k ↔ ((i : Int) < n ∧ (i : Int) < 9) := fun i => by omega
  obtain ⟨i1, hi1, hy0, hy1, hy2⟩ := info_ints_parts
  have Hi1 := Lib.hid hi1; have Hy0 := Lib.hid hy0; have Hy1 := Lib.hid hy1; have Hy2 := Lib.hid hy2
  clear hi1 hy0 hy1 hy2
  have Hend := Lib.hid hend; have Hin := Lib.hid hin
  clear hend hk hin
  obtain ⟨N, hN⟩ : ∃ N, N = w.heap.size := ⟨_, rfl⟩
  have HN := Lib.hid hN; clear hN
  go_enter Try.func31, Try.ntmps31
  go_wp2
  go_loopw [3, 4, 5] (fun gv iv _ wr => ∃ i : Nat, i ≤ k ∧ iv = .int .i64 i ∧ Hid (RowsIn w N wr gv (Gr.compTo k i (i + 1)))) (fun _ iv _ _ => k - (intOf iv).toNat)
  case atStart => exact ⟨0, by omega, rfl, Lib.hid (by rw [HN.out]; exact RowsIn.made (Below.refl _ _) (Nat.le_refl _))⟩
  case round =>
    obtain ⟨i, hi, rfl, hrows⟩ := hrel
    obtain ⟨wo, hwo⟩ : ∃ wo, wo = wr := ⟨_, rfl⟩
    by_cases hlt : i < k
    · obtain ⟨d1, d1b⟩ := (Hin.out i).1 hlt
      have h9 : (i : Int) ≤ 9 := by omega
      have Hlt := Lib.hid hlt
      clear hlt
      go_wp2
      go_loopw [3, 5] (fun gv jv wr => ∃ J : Nat, i + 1 ≤ J ∧ J ≤ k ∧ jv = .int .i64 J ∧ Hid (RowsIn w N wr gv (Gr.compTo k i J))) (fun _ jv _ => k - (intOf jv).toNat)
      case atStart => exact ⟨i + 1, Nat.le_refl _, Hlt.out, by go_num, hrows⟩
      case round =>
        obtain ⟨J, hJ1, hJ2, rfl, hrows⟩ := hrel
        replace hrows := hrows.out
        have hNle : N ≤ wr.heap.size := hrows.size (by rw [HN.out]; exact Nat.le_refl _)
        have hln := Gr.compTo_len (k := k) (i := i) (J := J) (by omega) (by omega) (by omega)
        have hq1 : (Gr.compTo k i J).length + 1 ≤ maxLen := by unfold maxLen; omega
        have hq2 : ((Gr.compTo k i J).length + 1) * 24 ≤ 140737488355328 := by omega
        by_cases hlt2 : J < k
        · obtain ⟨d2, d2b⟩ := (Hin.out J).1 hlt2
          have hst := Gr.compTo_step (k := k) hJ1
          have Hst := Lib.hid hst; have Hlt2 := Lib.hid hlt2; have HJ1 := Lib.hid hJ1
          clear hst hlt2 hln hJ1
          generalize Gr.compTo k i J = L1 at *
          obtain ⟨hs, e1, hown, hin, hap, hbl⟩ := hrows
          obtain ⟨av, cv, rfl⟩ := own_len hown
          have hown1 := hown.alloc (.cells #[.int .i64 (i : Int), .int .i64 (J : Int)] 3)
          have hK1 : (wr.alloc (.cells #[.int .i64 (i : Int), .int .i64 (J : Int)] 3)).heap.size = wr.heap.size + 1 := by simp
          have hN1 : N ≤ (wr.alloc (.cells #[.int .i64 (i : Int), .int .i64 (J : Int)] 3)).heap.size := by rw [hK1]; omega
          have Hm := Lib.hid (fun v3 w3 => RowsIn.more (w3 := w3) (v3 := v3) (x := (i : Int)) (y := (J : Int)) (c := 2) e1 hown hin hap hbl hNle (Nat.le_refl _))
          clear hin hap hbl
          have hown2 := hown1
          clear hown
          go_wp2_with (at_builtin; refine append_one_at (wr.heap.size + 1) hK1 rfl (.tmp 27) (.tmp 31) 22 rfl N 27 i1 _ 24 Try.underlying22 Hi1.out Hy0.out Hy1.out Hy2.out (by rfl) _ _ _ rfl hown2 (by rfl) _ rfl hq1 hq2 hN1 ?_; intro v3 w3 hown3 hg3 _; obtain ⟨a3, c3, rfl⟩ := own_len hown3)
          go_roundw
          case rel => exact ⟨J + 1, by have := HJ1.out; omega, Hlt2.out, by go_num, Lib.hid (by rw [Hst.out]; exact Hm.out _ _ hown3 hg3)⟩
          case measure => have := Hlt2.out; simp [intOf] <;> omega
        · obtain rfl : J = k := by omega
          clear hln hq1 hq2
          by_cases d2 : (J : Int) < n
          · have d3 : ¬ (J : Int) < 9 := fun h => hlt2 ((Hin.out J).2 ⟨d2, h⟩)
            clear hlt2
            go_wp2
            go_roundw
            case rel => exact ⟨i + 1, Hlt.out, by go_num, Lib.hid (by rw [← Gr.compTo_next]; exact hrows)⟩
            case measure => have := Hlt.out; simp [intOf] <;> omega
          · clear hlt2
            go_wp2
            go_roundw
            case rel => exact ⟨i + 1, Hlt.out, by go_num, Lib.hid (by rw [← Gr.compTo_next]; exact hrows)⟩
            case measure => have := Hlt.out; simp [intOf] <;> omega
    · obtain rfl : i = k := by omega
      by_cases d1 : (i : Int) < n
      · have d3 : ¬ (i : Int) < 9 := fun h => hlt ((Hin.out i).2 ⟨d1, h⟩)
        clear hlt
        have hg := (by have h := hrows.out; rw [Gr.compTo_end, HN.out] at h; exact h : RowsIn w w.heap.size wr _ (Gr.complete _)).gives
        have hM := spec_l7Right_made _ _ w wr hg Hend.out
        have HM := Lib.hid hM; clear hM hg
        go_wp2_with fail
        refine HM.out.mono ?_
        rintro e w1 ⟨⟨a1, c1, rfl⟩, hG⟩
        have HG := Lib.hid hG; clear hG
        go_wp2
        go_ret
        exact HG.out
      · clear hlt
        have hg := (by have h := hrows.out; rw [Gr.compTo_end, HN.out] at h; exact h : RowsIn w w.heap.size wr _ (Gr.complete _)).gives
        have hM := spec_l7Right_made _ _ w wr hg Hend.out
        have HM := Lib.hid hM; clear hM hg
        go_wp2_with fail
        refine HM.out.mono ?_
        rintro e w1 ⟨⟨a1, c1, rfl⟩, hG⟩
        have HG := Lib.hid hG; clear hG
        go_wp2
        go_ret
        exact HG.out

set_option maxRecDepth 10000 in
set_option maxHeartbeats 4000000 in
theorem impl_BipartiteGraph (va vb : Int) (w : World) (_ : -9223372036854775808 ≤ va) (_ : va ≤ 9223372036854775807) (_ : -9223372036854775808 ≤ vb) (_ : vb ≤ 9223372036854775807) :
    Calls Try.prog 35 #[.int .i64 va, .int .i64 vb] w fun e w' => GivesRows w (Gr.bipOf va vb) e w' := by
  by_cases h7 : 7 < va
  · rw [Gr.bip_far (Or.inl h7)]
    go_enter Try.func35, Try.ntmps35
    go_wp2
    go_ret
    exact GivesRows.none (Below.refl _ _)
  by_cases h8 : 7 < vb
  · rw [Gr.bip_far (Or.inr h8)]
    go_enter Try.func35, Try.ntmps35
    go_wp2
    go_ret
    exact GivesRows.none (Below.refl _ _)
  rw [Gr.bip_near (by omega)]
  obtain ⟨k, hk⟩ : ∃ k, va.toNat = k := ⟨_, rfl⟩
  obtain ⟨m, hm⟩ : ∃ m, vb.toNat = m := ⟨_, rfl⟩
  rw [hk, hm]
  have hk7 : k ≤ 7 := by omega
  have hm7 : m ≤ 7 := by omega
  have hend := Gr.bip_tot (a := k) (b := m) (by omega) (by omega)
  have hin : ∀ i : Nat, i < k ↔ (i : Int) < va := fun i => by omega
  have hin2 : ∀ i : Nat, i < m ↔ (i : Int) < vb := fun i => by omega
  have hval : ∀ i : Nat, i < k → va = (k : Int) := fun i h => by omega
  obtain ⟨i1, hi1, hy0, hy1, hy2⟩ := info_ints_parts
  have Hi1 := Lib.hid hi1; have Hy0 := Lib.hid hy0; have Hy1 := Lib.hid hy1; have Hy2 := Lib.hid hy2
  clear hi1 hy0 hy1 hy2
  have Hend := Lib.hid hend; have Hin := Lib.hid hin; have Hin2 := Lib.hid hin2
  clear hend hin hin2
  obtain ⟨N, hN⟩ : ∃ N, N = w.heap.size := ⟨_, rfl⟩
  have HN := Lib.hid hN; clear hN
  go_enter Try.func35, Try.ntmps35
  go_wp2
  go_loopw [5, 6, 7, 15, 19] (fun gv _ _ iv _ wr => ∃ i : Nat, i ≤ k ∧ iv = .int .i64 i ∧ Hid (RowsIn w N wr gv (Gr.bipTo k m i 0))) (fun _ _ _ iv _ _ => k - (intOf iv).toNat)
  case atStart => exact ⟨0, by omega, rfl, Lib.hid (RowsIn.nil (Below.refl _ _ |>.mono (by rw [HN.out]; exact Nat.le_refl _)))⟩
  case round =>
    obtain ⟨i, hi, rfl, hrows⟩ := hrel
    obtain ⟨wo, hwo⟩ : ∃ wo, wo = wr := ⟨_, rfl⟩
    by_cases hlt : i < k
    · have d1 : (i : Int) < va := (Hin.out i).1 hlt
      have h9 : (i : Int) ≤ 9 := by omega
      have hva := hval i hlt
      subst hva
      have hk9 : (k : Int) ≤ 9 := by omega
      have Hlt := Lib.hid hlt
      clear hlt
      go_wp2
      go_loopw [5, 7, 19] (fun gv _ jv wr => ∃ J : Nat, J ≤ m ∧ jv = .int .i64 J ∧ Hid (RowsIn w N wr gv (Gr.bipTo k m i J))) (fun _ _ jv _ => m - (intOf jv).toNat)
      case atStart => exact ⟨0, Nat.zero_le _, rfl, hrows⟩
      case round =>
        obtain ⟨J, hJ2, rfl, hrows⟩ := hrel
        replace hrows := hrows.out
        have hNle : N ≤ wr.heap.size := hrows.size (by rw [HN.out]; exact Nat.le_refl _)
        have hln := Gr.bipTo_len (a := k) (b := m) (i := i) (j := J) (by omega) (by omega) (by omega)
        have hq1 : (Gr.bipTo k m i J).length + 1 ≤ maxLen := by unfold maxLen; omega
        have hq2 : ((Gr.bipTo k m i J).length + 1) * 24 ≤ 140737488355328 := by omega
        have hJ9 : (J : Int) ≤ 9 := by omega
        by_cases hlt2 : J < m
        · have d2 : (J : Int) < vb := (Hin2.out J).1 hlt2
          have hst := Gr.bipTo_step (a := k) (b := m) (i := i) (j := J)
          rw [show ((k + J : Nat) : Int) = (k : Int) + (J : Int) by omega] at hst
          have Hst := Lib.hid hst; have Hlt2 := Lib.hid hlt2
          clear hst hlt2 hln
          generalize Gr.bipTo k m i J = L1 at *
          obtain ⟨hs, e1, hown, hin, hap, hbl⟩ := hrows
          obtain ⟨av, cv, rfl⟩ := own_len hown
          have hown1 := hown.alloc (.cells #[.int .i64 (i : Int), .int .i64 ((k : Int) + (J : Int))] 3)
          have hK1 : (wr.alloc (.cells #[.int .i64 (i : Int), .int .i64 ((k : Int) + (J : Int))] 3)).heap.size = wr.heap.size + 1 := by simp
          have hN1 : N ≤ (wr.alloc (.cells #[.int .i64 (i : Int), .int .i64 ((k : Int) + (J : Int))] 3)).heap.size := by rw [hK1]; omega
          have Hm := Lib.hid (fun v3 w3 => RowsIn.more (w3 := w3) (v3 := v3) (x := (i : Int)) (y := ((k : Int) + (J : Int))) (c := 2) e1 hown hin hap hbl hNle (Nat.le_refl _))
          clear hin hap hbl
          have hown2 := hown1
          clear hown
          go_wp2_with (at_builtin; refine append_one_at (wr.heap.size + 1) hK1 rfl (.tmp 22) (.tmp 28) 22 rfl N 27 i1 _ 24 Try.underlying22 Hi1.out Hy0.out Hy1.out Hy2.out (by rfl) _ _ _ rfl hown2 (by rfl) _ rfl hq1 hq2 hN1 ?_; intro v3 w3 hown3 hg3 _; obtain ⟨a3, c3, rfl⟩ := own_len hown3)
          go_roundw
          case rel => exact ⟨J + 1, Hlt2.out, by go_num, Lib.hid (by rw [Hst.out]; exact Hm.out _ _ hown3 hg3)⟩
          case measure => have := Hlt2.out; simp [intOf] <;> omega
        · obtain rfl : J = m := by omega
          have d2 : ¬ (J : Int) < vb := fun h => hlt2 ((Hin2.out J).2 h)
          clear hlt2 hln hq1 hq2
          go_wp2
          go_roundw
          case rel => exact ⟨i + 1, Hlt.out, by go_num, Lib.hid (by rw [← Gr.bipTo_next]; exact hrows)⟩
          case measure => have := Hlt.out; simp [intOf] <;> omega
    · obtain rfl : i = k := by omega
      have d1 : ¬ (i : Int) < va := fun h => hlt ((Hin.out i).2 h)
      clear hlt
      have hg := (by have h := hrows.out; rw [HN.out] at h; exact h : RowsIn w w.heap.size wr _ (Gr.bip _ _)).gives
      have hM := impl_graphOrNil_made _ _ w wr hg Hend.out
      have HM := Lib.hid hM; clear hM hg
      go_wp2_with fail
      refine HM.out.mono ?_
      rintro e w1 ⟨⟨a1, c1, rfl⟩, hG⟩
      have HG := Lib.hid hG; clear hG
      go_wp2
      go_ret
      exact HG.out

set_option maxRecDepth 10000 in
set_option maxHeartbeats 4000000 in
theorem spec_BipartiteGraph (va vb : Int) (w : World) (_ : -9223372036854775808 ≤ va) (_ : va ≤ 9223372036854775807) (_ : -9223372036854775808 ≤ vb) (_ : vb ≤ 9223372036854775807) :
    Calls Try.prog 34 #[.int .i64 va, .int .i64 vb] w fun e w' => GivesRows w (Gr.bipOf va vb) e w' := by
  unfold Gr.bipOf
  by_cases hva : 1 ≤ va ∧ va ≤ 7
  case neg =>
    rw [if_neg hva]
    have hc := fun W => spec_l1In va 1 7 W
    rw [decide_eq_false hva] at hc
    have hr := fun w1 (h : GivesRows w [] (.returned (.slice (some ⟨w.heap.size, 0, none⟩) 0 0)) w1) => spec_l7Right_made _ [] w w1 h (by decide)
    have Hc := Lib.hid hc; have Hr := Lib.hid hr
    clear hc hr
    go_enter Try.func34, Try.ntmps34
    go_wp2
    go_loopw [5, 6, 7] (fun gv iv _ wr => iv = .int .i64 0 ∧ gv = .slice (some ⟨w.heap.size, 0, none⟩) 0 0 ∧ Hid (Below w.heap.size w wr)) (fun _ _ _ _ => 0)
    case atStart => exact ⟨rfl, rfl, Lib.hid ((Below.refl _ _).alloc (Nat.le_refl _) _)⟩
    case round =>
      obtain ⟨rfl, rfl, hb⟩ := hrel
      have hR := Hr.out wr (GivesRows.none hb.out)
      have HR := Lib.hid hR; clear hR
      by_cases d0 : 0 < va
      · go_wp2_with fail
        refine (Hc.out _).mono ?_
        rintro e w1 ⟨rfl, rfl⟩
        go_wp2_with fail
        refine HR.out.mono ?_
        rintro e w1 ⟨⟨a1, c1, rfl⟩, hG⟩
        have HG := Lib.hid hG; clear hG
        go_wp2
        go_ret
        exact HG.out
      · go_wp2_with fail
        refine HR.out.mono ?_
        rintro e w1 ⟨⟨a1, c1, rfl⟩, hG⟩
        have HG := Lib.hid hG; clear hG
        go_wp2
        go_ret
        exact HG.out
  rw [if_pos hva]
  have hc := fun W => spec_l1In va 1 7 W
  rw [decide_eq_true hva] at hc
  obtain ⟨k, rfl⟩ : ∃ k : Nat, va = ((k : Nat) : Int) := ⟨va.toNat, by omega⟩
  obtain ⟨m, hm⟩ : ∃ m, (min vb 9).toNat = m := ⟨_, rfl⟩
  rw [hm, Int.toNat_natCast]
  have hk7 : k ≤ 7 := by omega
  have hm7 : m ≤ 9 := by omega
  have hend := Gr.bip_tot (a := k) (b := m) (by omega) (by omega)
  have hin : ∀ i : Nat, i < k ↔ (i : Int) < (k : Int) := fun i => by omega
  have hin2 : ∀ i : Nat, i < m ↔ ((i : Int) < vb ∧ (i : Int) < 9) := fun i => by omega
  have Hc := Lib.hid hc
  clear hc hva
  obtain ⟨i1, hi1, hy0, hy1, hy2⟩ := info_ints_parts
  have Hi1 := Lib.hid hi1; have Hy0 := Lib.hid hy0; have Hy1 := Lib.hid hy1; have Hy2 := Lib.hid hy2
  clear hi1 hy0 hy1 hy2
  have Hend := Lib.hid hend; have Hin := Lib.hid hin; have Hin2 := Lib.hid hin2
  clear hend hin hin2
  obtain ⟨N, hN⟩ : ∃ N, N = w.heap.size := ⟨_, rfl⟩
  have HN := Lib.hid hN; clear hN
  go_enter Try.func34, Try.ntmps34
  go_wp2
  go_loopw [5, 6, 7] (fun gv iv _ wr => ∃ i : Nat, i ≤ k ∧ iv = .int .i64 i ∧ Hid (RowsIn w N wr gv (Gr.bipTo k m i 0))) (fun _ iv _ _ => k - (intOf iv).toNat)
  case atStart => exact ⟨0, by omega, rfl, Lib.hid (by rw [HN.out]; exact RowsIn.made (Below.refl _ _) (Nat.le_refl _))⟩
  case round =>
    obtain ⟨i, hi, rfl, hrows⟩ := hrel
    obtain ⟨wo, hwo⟩ : ∃ wo, wo = wr := ⟨_, rfl⟩
    by_cases hlt : i < k
    · have d1 : (i : Int) < (k : Int) := (Hin.out i).1 hlt
      have d1b : (i : Int) < 9 := by omega
      have h9 : (i : Int) ≤ 9 := by omega
      have hk9 : (k : Int) ≤ 9 := by omega
      have Hlt := Lib.hid hlt
      clear hlt
      go_wp2_with fail
      refine (Hc.out _).mono ?_
      rintro e w1 ⟨rfl, rfl⟩
      go_wp2
      go_loopw [5, 7] (fun gv jv wr => ∃ J : Nat, J ≤ m ∧ jv = .int .i64 J ∧ Hid (RowsIn w N wr gv (Gr.bipTo k m i J))) (fun _ jv _ => m - (intOf jv).toNat)
      case atStart => exact ⟨0, Nat.zero_le _, rfl, hrows⟩
      case round =>
        obtain ⟨J, hJ2, rfl, hrows⟩ := hrel
        replace hrows := hrows.out
        have hNle : N ≤ wr.heap.size := hrows.size (by rw [HN.out]; exact Nat.le_refl _)
        have hln := Gr.bipTo_len (a := k) (b := m) (i := i) (j := J) (by omega) (by omega) (by omega)
        have hq1 : (Gr.bipTo k m i J).length + 1 ≤ maxLen := by unfold maxLen; omega
        have hq2 : ((Gr.bipTo k m i J).length + 1) * 24 ≤ 140737488355328 := by omega
        have hJ9 : (J : Int) ≤ 9 := by omega
        by_cases hlt2 : J < m
        · obtain ⟨d2, d2b⟩ := (Hin2.out J).1 hlt2
          have hst := Gr.bipTo_step (a := k) (b := m) (i := i) (j := J)
          rw [show ((k + J : Nat) : Int) = (k : Int) + (J : Int) by omega] at hst
          have Hst := Lib.hid hst; have Hlt2 := Lib.hid hlt2
          clear hst hlt2 hln
          generalize Gr.bipTo k m i J = L1 at *
          obtain ⟨hs, e1, hown, hin, hap, hbl⟩ := hrows
          obtain ⟨av, cv, rfl⟩ := own_len hown
          have hown1 := hown.alloc (.cells #[.int .i64 (i : Int), .int .i64 ((k : Int) + (J : Int))] 3)
          have hK1 : (wr.alloc (.cells #[.int .i64 (i : Int), .int .i64 ((k : Int) + (J : Int))] 3)).heap.size = wr.heap.size + 1 := by simp
          have hN1 : N ≤ (wr.alloc (.cells #[.int .i64 (i : Int), .int .i64 ((k : Int) + (J : Int))] 3)).heap.size := by rw [hK1]; omega
          have Hm := Lib.hid (fun v3 w3 => RowsIn.more (w3 := w3) (v3 := v3) (x := (i : Int)) (y := ((k : Int) + (J : Int))) (c := 2) e1 hown hin hap hbl hNle (Nat.le_refl _))
          clear hin hap hbl
          have hown2 := hown1
          clear hown
          go_wp2_with (at_builtin; refine append_one_at (wr.heap.size + 1) hK1 rfl (.tmp 31) (.tmp 37) 22 rfl N 27 i1 _ 24 Try.underlying22 Hi1.out Hy0.out Hy1.out Hy2.out (by rfl) _ _ _ rfl hown2 (by rfl) _ rfl hq1 hq2 hN1 ?_; intro v3 w3 hown3 hg3 _; obtain ⟨a3, c3, rfl⟩ := own_len hown3)
          go_roundw
          case rel => exact ⟨J + 1, Hlt2.out, by go_num, Lib.hid (by rw [Hst.out]; exact Hm.out _ _ hown3 hg3)⟩
          case measure => have := Hlt2.out; simp [intOf] <;> omega
        · obtain rfl : J = m := by omega
          clear hln hq1 hq2
          by_cases d2 : (J : Int) < vb
          · have d3 : ¬ (J : Int) < 9 := fun h => hlt2 ((Hin2.out J).2 ⟨d2, h⟩)
            clear hlt2
            go_wp2
            go_roundw
            case rel => exact ⟨i + 1, Hlt.out, by go_num, Lib.hid (by rw [← Gr.bipTo_next]; exact hrows)⟩
            case measure => have := Hlt.out; simp [intOf] <;> omega
          · clear hlt2
            go_wp2
            go_roundw
            case rel => exact ⟨i + 1, Hlt.out, by go_num, Lib.hid (by rw [← Gr.bipTo_next]; exact hrows)⟩
            case measure => have := Hlt.out; simp [intOf] <;> omega
    · obtain rfl : i = k := by omega
      have d1 : ¬ (i : Int) < (i : Int) := by omega
      clear hlt
      have hg := (by have h := hrows.out; rw [HN.out] at h; exact h : RowsIn w w.heap.size wr _ (Gr.bip _ _)).gives
      have hM := spec_l7Right_made _ _ w wr hg Hend.out
      have HM := Lib.hid hM; clear hM hg
      go_wp2_with fail
      refine HM.out.mono ?_
      rintro e w1 ⟨⟨a1, c1, rfl⟩, hG⟩
      have HG := Lib.hid hG; clear hG
      go_wp2
      go_ret
      exact HG.out

set_option maxRecDepth 10000 in
set_option maxHeartbeats 4000000 in
theorem impl_RingGraph (n : Int) (w : World) (_ : -9223372036854775808 ≤ n) (_ : n ≤ 9223372036854775807) :
    Calls Try.prog 37 #[.int .i64 n] w fun e w' => GivesRows w (Gr.ringOf n) e w' := by
  unfold Gr.ringOf
  by_cases hn : 3 ≤ n ∧ n ≤ 7
  case neg =>
    rw [if_neg hn]
    by_cases h3 : n < 3
    · go_enter Try.func37, Try.ntmps37
      go_wp2
      go_ret
      exact GivesRows.none (Below.refl _ _)
    · have h7 : 7 < n := by omega
      go_enter Try.func37, Try.ntmps37
      go_wp2
      go_ret
      exact GivesRows.none (Below.refl _ _)
  rw [if_pos hn]
  obtain ⟨k, rfl⟩ : ∃ k : Nat, n = ((k : Nat) : Int) := ⟨n.toNat, by omega⟩
  rw [Int.toNat_natCast]
  have hk3 : 3 ≤ k := by omega
  have hk7 : k ≤ 7 := by omega
  have g3 : ¬ (k : Int) < 3 := by omega
  have g7 : ¬ (7 : Int) < (k : Int) := by omega
  have hend := Gr.ringTo_tot (n := k) (i := k) (by omega)
  clear hn
  obtain ⟨i1, hi1, hy0, hy1, hy2⟩ := info_ints_parts
  have Hi1 := Lib.hid hi1; have Hy0 := Lib.hid hy0; have Hy1 := Lib.hid hy1; have Hy2 := Lib.hid hy2
  clear hi1 hy0 hy1 hy2
  have Hend := Lib.hid hend
  clear hend
  obtain ⟨N, hN⟩ : ∃ N, N = w.heap.size := ⟨_, rfl⟩
  have HN := Lib.hid hN; clear hN
  go_enter Try.func37, Try.ntmps37
  go_wp2
  go_loopw [3, 4, 12] (fun gv _ iv wr => ∃ i : Nat, i ≤ k ∧ iv = .int .i64 i ∧ Hid (RowsIn w N wr gv (Gr.ringTo_ k i))) (fun _ _ iv _ => k - (intOf iv).toNat)
  case atStart => exact ⟨0, by omega, rfl, Lib.hid (RowsIn.nil (Below.refl _ _ |>.mono (by rw [HN.out]; exact Nat.le_refl _)))⟩
  case round =>
    obtain ⟨i, hi, rfl, hrows⟩ := hrel
    replace hrows := hrows.out
    have hNle : N ≤ wr.heap.size := hrows.size (by rw [HN.out]; exact Nat.le_refl _)
    have hln := Gr.ringTo_len k i
    have hq1 : (Gr.ringTo_ k i).length + 1 ≤ maxLen := by unfold maxLen; omega
    have hq2 : ((Gr.ringTo_ k i).length + 1) * 24 ≤ 140737488355328 := by omega
    by_cases hlt : i < k
    · have d1 : (i : Int) < (k : Int) := by omega
      have h9 : (i : Int) ≤ 9 := by omega
      have hst := Gr.ringTo_step k i
      have hm1 : ((i : Int) + 1) % (k : Int) = (((i + 1) % k : Nat) : Int) := by rw [show (i : Int) + 1 = ((i + 1 : Nat) : Int) by omega]; exact (Int.natCast_emod _ _).symm
      have hm2 : Int.tmod ((i : Int) + 1) (k : Int) = (((i + 1) % k : Nat) : Int) := by rw [Int.tmod_eq_emod_of_nonneg (by omega)]; exact hm1
      have hmlt : (i + 1) % k < k := Nat.mod_lt _ (by omega)
      have Hst := Lib.hid hst; have Hlt := Lib.hid hlt
      clear hst hlt hln
      generalize Gr.ringTo_ k i = L1 at *
      generalize hM : (i + 1) % k = M at *
      have HM := Lib.hid hM
      clear hM
      obtain ⟨hs, e1, hown, hin, hap, hbl⟩ := hrows
      obtain ⟨av, cv, rfl⟩ := own_len hown
      have hown1 := hown.alloc (.cells #[.int .i64 (i : Int), .int .i64 (M : Int)] 3)
      have hK1 : (wr.alloc (.cells #[.int .i64 (i : Int), .int .i64 (M : Int)] 3)).heap.size = wr.heap.size + 1 := by simp
      have hN1 : N ≤ (wr.alloc (.cells #[.int .i64 (i : Int), .int .i64 (M : Int)] 3)).heap.size := by rw [hK1]; omega
      have Hm := Lib.hid (fun v3 w3 => RowsIn.more (w3 := w3) (v3 := v3) (x := (i : Int)) (y := (M : Int)) (c := 2) e1 hown hin hap hbl hNle (Nat.le_refl _))
      clear hin hap hbl
      have hown2 := hown1
      clear hown
      go_wp2_with (at_builtin; refine append_one_at (wr.heap.size + 1) hK1 rfl (.tmp 15) (.tmp 22) 22 rfl N 27 i1 _ 24 Try.underlying22 Hi1.out Hy0.out Hy1.out Hy2.out (by rfl) _ _ _ rfl hown2 (by rfl) _ rfl hq1 hq2 hN1 ?_; intro v3 w3 hown3 hg3 _; obtain ⟨a3, c3, rfl⟩ := own_len hown3)
      go_roundw
      case rel => exact ⟨i + 1, Hlt.out, by go_num, Lib.hid (by rw [Hst.out]; exact Hm.out _ _ hown3 hg3)⟩
      case measure => have := Hlt.out; simp [intOf] <;> omega
    · obtain rfl : i = k := by omega
      have d1 : ¬ (i : Int) < (i : Int) := by omega
      clear hlt hln hq1 hq2
      have hg := (by rw [HN.out] at hrows; exact hrows : RowsIn w w.heap.size wr _ (Gr.ringTo_ _ _)).gives
      have hM := impl_graphOrNil_made _ _ w wr hg Hend.out
      have HM := Lib.hid hM; clear hM hg
      go_wp2_with fail
      refine HM.out.mono ?_
      rintro e w1 ⟨⟨a1, c1, rfl⟩, hG⟩
      have HG := Lib.hid hG; clear hG
      go_wp2
      go_ret
      exact HG.out

set_option maxRecDepth 10000 in
set_option maxHeartbeats 4000000 in
theorem spec_RingGraph (n : Int) (w : World) (_ : -9223372036854775808 ≤ n) (_ : n ≤ 9223372036854775807) :
    Calls Try.prog 36 #[.int .i64 n] w fun e w' => GivesRows w (Gr.ringOf n) e w' := by
  unfold Gr.ringOf
  by_cases hn : 3 ≤ n ∧ n ≤ 7
  case neg =>
    rw [if_neg hn]
    have hc := fun W => spec_l1In n 3 7 W
    rw [decide_eq_false hn] at hc
    have hr := fun w1 (h : GivesRows w [] (.returned (.slice (some ⟨w.heap.size, 0, none⟩) 0 0)) w1) => spec_l7Right_made _ [] w w1 h (by decide)
    have Hc := Lib.hid hc; have Hr := Lib.hid hr
    clear hc hr
    go_enter Try.func36, Try.ntmps36
    go_wp2
    go_loopw [3, 4] (fun gv iv wr => iv = .int .i64 0 ∧ gv = .slice (some ⟨w.heap.size, 0, none⟩) 0 0 ∧ Hid (Below w.heap.size w wr)) (fun _ _ _ => 0)
    case atStart => exact ⟨rfl, rfl, Lib.hid ((Below.refl _ _).alloc (Nat.le_refl _) _)⟩
    case round =>
      obtain ⟨rfl, rfl, hb⟩ := hrel
      have hR := Hr.out wr (GivesRows.none hb.out)
      have HR := Lib.hid hR; clear hR
      by_cases d0 : 0 < n
      · go_wp2_with fail
        refine (Hc.out _).mono ?_
        rintro e w1 ⟨rfl, rfl⟩
        go_wp2_with fail
        refine HR.out.mono ?_
        rintro e w1 ⟨⟨a1, c1, rfl⟩, hG⟩
        have HG := Lib.hid hG; clear hG
        go_wp2
        go_ret
        exact HG.out
      · go_wp2_with fail
        refine HR.out.mono ?_
        rintro e w1 ⟨⟨a1, c1, rfl⟩, hG⟩
        have HG := Lib.hid hG; clear hG
        go_wp2
        go_ret
        exact HG.out
  have hc := fun W => spec_l1In n 3 7 W
  rw [decide_eq_true hn] at hc
  have Hc := Lib.hid hc
  clear hc
  rw [if_pos hn]
  obtain ⟨k, rfl⟩ : ∃ k : Nat, n = ((k : Nat) : Int) := ⟨n.toNat, by omega⟩
  rw [Int.toNat_natCast]
  have hk3 : 3 ≤ k := by omega
  have hk7 : k ≤ 7 := by omega
  have g3 : ¬ (k : Int) < 3 := by omega
  have g7 : ¬ (7 : Int) < (k : Int) := by omega
  have hend := Gr.ringTo_tot (n := k) (i := k) (by omega)
  clear hn
  obtain ⟨i1, hi1, hy0, hy1, hy2⟩ := info_ints_parts
  have Hi1 := Lib.hid hi1; have Hy0 := Lib.hid hy0; have Hy1 := Lib.hid hy1; have Hy2 := Lib.hid hy2
  clear hi1 hy0 hy1 hy2
  have Hend := Lib.hid hend
  clear hend
  obtain ⟨N, hN⟩ : ∃ N, N = w.heap.size := ⟨_, rfl⟩
  have HN := Lib.hid hN; clear hN
  go_enter Try.func36, Try.ntmps36
  go_wp2
  go_loopw [3, 4] (fun gv iv wr => ∃ i : Nat, i ≤ k ∧ iv = .int .i64 i ∧ Hid (RowsIn w N wr gv (Gr.ringTo_ k i))) (fun _ iv _ => k - (intOf iv).toNat)
  case atStart => exact ⟨0, by omega, rfl, Lib.hid (by rw [HN.out]; exact RowsIn.made (Below.refl _ _) (Nat.le_refl _))⟩
  case round =>
    obtain ⟨i, hi, rfl, hrows⟩ := hrel
    replace hrows := hrows.out
    have hNle : N ≤ wr.heap.size := hrows.size (by rw [HN.out]; exact Nat.le_refl _)
    have hln := Gr.ringTo_len k i
    have hq1 : (Gr.ringTo_ k i).length + 1 ≤ maxLen := by unfold maxLen; omega
    have hq2 : ((Gr.ringTo_ k i).length + 1) * 24 ≤ 140737488355328 := by omega
    by_cases hlt : i < k
    · have d1 : (i : Int) < (k : Int) := by omega
      have h9 : (i : Int) ≤ 9 := by omega
      have hst := Gr.ringTo_step k i
      have hm1 : ((i : Int) + 1) % (k : Int) = (((i + 1) % k : Nat) : Int) := by rw [show (i : Int) + 1 = ((i + 1 : Nat) : Int) by omega]; exact (Int.natCast_emod _ _).symm
      have hm2 : Int.tmod ((i : Int) + 1) (k : Int) = (((i + 1) % k : Nat) : Int) := by rw [Int.tmod_eq_emod_of_nonneg (by omega)]; exact hm1
      have hmlt : (i + 1) % k < k := Nat.mod_lt _ (by omega)
      have Hst := Lib.hid hst; have Hlt := Lib.hid hlt
      clear hst hlt hln
      generalize Gr.ringTo_ k i = L1 at *
      generalize hM : (i + 1) % k = M at *
      have HM := Lib.hid hM
      clear hM
      go_wp2_with fail
      refine (Hc.out _).mono ?_
      rintro e w1 ⟨rfl, hw⟩
      rw [hw]; clear hw
      obtain ⟨hs, e1, hown, hin, hap, hbl⟩ := hrows
      obtain ⟨av, cv, rfl⟩ := own_len hown
      have hown1 := hown.alloc (.cells #[.int .i64 (i : Int), .int .i64 (M : Int)] 3)
      have hK1 : (wr.alloc (.cells #[.int .i64 (i : Int), .int .i64 (M : Int)] 3)).heap.size = wr.heap.size + 1 := by simp
      have hN1 : N ≤ (wr.alloc (.cells #[.int .i64 (i : Int), .int .i64 (M : Int)] 3)).heap.size := by rw [hK1]; omega
      have Hm := Lib.hid (fun v3 w3 => RowsIn.more (w3 := w3) (v3 := v3) (x := (i : Int)) (y := (M : Int)) (c := 2) e1 hown hin hap hbl hNle (Nat.le_refl _))
      clear hin hap hbl
      have hown2 := hown1
      clear hown
      go_wp2_with (at_builtin; refine append_one_at (wr.heap.size + 1) hK1 rfl (.tmp 15) (.tmp 22) 22 rfl N 27 i1 _ 24 Try.underlying22 Hi1.out Hy0.out Hy1.out Hy2.out (by rfl) _ _ _ rfl hown2 (by rfl) _ rfl hq1 hq2 hN1 ?_; intro v3 w3 hown3 hg3 _; obtain ⟨a3, c3, rfl⟩ := own_len hown3)
      go_roundw
      case rel => exact ⟨i + 1, Hlt.out, by go_num, Lib.hid (by rw [Hst.out]; exact Hm.out _ _ hown3 hg3)⟩
      case measure => have := Hlt.out; simp [intOf] <;> omega
    · obtain rfl : i = k := by omega
      have d1 : ¬ (i : Int) < (i : Int) := by omega
      clear hlt hln hq1 hq2
      have hg := (by rw [HN.out] at hrows; exact hrows : RowsIn w w.heap.size wr _ (Gr.ringTo_ _ _)).gives
      have hM := spec_l7Right_made _ _ w wr hg Hend.out
      have HM := Lib.hid hM; clear hM hg
      go_wp2_with fail
      refine HM.out.mono ?_
      rintro e w1 ⟨⟨a1, c1, rfl⟩, hG⟩
      have HG := Lib.hid hG; clear hG
      go_wp2
      go_ret
      exact HG.out
end Go.Proofs.Ytpgdmbolckogcaa
