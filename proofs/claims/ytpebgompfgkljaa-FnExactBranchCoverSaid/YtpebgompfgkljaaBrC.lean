/-
  The walks of the program's CloseUp, BraidPassport, exchangeOfMates and MapPassport.
-/
import Derived.Test.YtpebgompfgkljaaBase
import Derived.Test.YtpebgompfgkljaaSlice
import Derived.Test.YtpebgompfgkljaaIntRow
import Derived.Test.YtpebgompfgkljaaInts
import Derived.Test.YtpebgompfgkljaaOwn
import Derived.Test.YtpebgompfgkljaaAppend
import Derived.Test.YtpebgompfgkljaaWord
import Derived.Test.YtpebgompfgkljaaGrid
import Derived.Test.YtpebgompfgkljaaGridWalk
import Derived.Test.YtpebgompfgkljaaGridRows
import Derived.Test.YtpebgompfgkljaaClass
import Derived.Test.YtpebgompfgkljaaLab
import Derived.Test.YtpebgompfgkljaaMap
import Derived.Test.YtpebgompfgkljaaMapA
import Derived.Test.YtpebgompfgkljaaMoveA
import Derived.Test.YtpebgompfgkljaaCov
import Derived.Test.YtpebgompfgkljaaCovA
import Derived.Test.YtpebgompfgkljaaCovB
import Derived.Test.YtpebgompfgkljaaBrA
import Derived.Deep.QuietTactic
import Derived.BigQuiet
import Derived.StillTailTactics
namespace Go.Proofs.Ytpebgompfgkljaa
open Go.RowKit

theorem Br.perms_tot {L : List (List Int)} (h : Cv.Perms L) : tot L ≤ 1048576 := by
  have h1 : ∀ (M : List (List Int)), (∀ p ∈ M, p.length ≤ 5) → sumLen M ≤ M.length * 5 := by
    intro M
    induction M with
    | nil => intro _; simp [sumLen]
    | cons p M ih =>
      intro hM
      have e : sumLen (p :: M) = p.length + sumLen M := by simp [sumLen]
      have := hM p (List.mem_cons_self ..)
      have := ih fun q hq => hM q (List.mem_cons_of_mem _ hq)
      rw [e, List.length_cons]; omega
  have := h1 L fun p hp => by rw [(h.1 p hp).1]; exact h.2.2.2.2
  have := h.2.2.1
  unfold tot; omega
theorem Br.closed_of {L : List (List Int)} (h : Br.CloseOk L) : Br.closed L = L ++ [Br.last L] := if_pos h
theorem Br.closed_not {L : List (List Int)} (h : ¬ Br.CloseOk L) : Br.closed L = [] := if_neg h
set_option maxRecDepth 10000 in
set_option maxHeartbeats 2000000 in
theorem impl_CloseUp (a : Option Addr) (c : Nat) (L : List (List Int)) (w : World) (ha : GridAt w a L) (hL : ∀ p ∈ L, p.length ≤ 1048576) (hn : L.length ≤ 1048576) :
    Calls Try.prog 60 #[.slice a L.length c] w fun e w' => GivesRows2 w (Br.closed L) (decide (Br.CloseOk L)) e w' := by
  have hcP := impl_doPermute a c L w ha hL hn
  by_cases hP : Cv.Perms L
  · rw [decide_eq_true hP] at hcP
    obtain ⟨i0, hi0, hz0, hz1, hz2⟩ := info_ints_parts
    have Hi0 := Lib.hid hi0; have Hz0 := Lib.hid hz0; have Hz1 := Lib.hid hz1; have Hz2 := Lib.hid hz2
    have h1 := hP.2.1
    have h8 := hP.2.2.1
    have hd1 := hP.2.2.2.1
    have hd5 := hP.2.2.2.2
    have hC := fun W (h : Below w.heap.size w W) => impl_copyPermutations a c L W (ha.below h) (Br.perms_tot hP)
    have hR := fun W (hb : Below w.heap.size w W) => impl_productOf a c (Cv.deg L) L W (ha.below hb) (Br.alike hP) h1 (by omega) (by omega)
    have hpl : (Br.prod L (Cv.deg L)).length = Cv.deg L := Br.prod_len _ _
    have hI := fun b W (h : RowAt W b (intCells (Br.prod L (Cv.deg L)))) => impl_inverseOf b (Cv.deg L) (Br.prod L (Cv.deg L)) W h (Br.prod_isP (Br.alike hP)) (by omega) (by omega)
    rw [hpl, show Mp.mirror (Br.prod L (Cv.deg L)) = Br.last L from rfl] at hI
    have hrow : ∀ W g, Lab W g (Br.mul L) (Cv.deg L) → RowAt W (some ⟨g, 0, none⟩) (intCells (Br.prod L (Cv.deg L))) := fun W g h => h.row
    have hII := fun ga gc W (h : GridAt W ga (L ++ [Br.last L])) => impl_IsPassport ga gc (L ++ [Br.last L]) W h (fun p hp => by
      rcases List.mem_append.1 hp with hp | hp
      · exact hL p hp
      · rw [List.mem_singleton.1 hp, Br.last_len]; omega) (by simp; omega)
    rw [decide_eq_decide.2 (Br.pass_close hP)] at hII
    have hll : (L ++ [Br.last L]).length = L.length + 1 := by simp
    rw [hll] at hII
    have hcd : decide (Br.CloseOk L) = decide (L.length ≤ 4) := decide_eq_decide.2 ⟨fun h => h.1, fun h => ⟨h, hP⟩⟩
    have hlast := Br.last_len L
    rw [hcd]
    by_cases h4 : L.length ≤ 4
    · rw [Br.closed_of ⟨h4, hP⟩]
      rw [decide_eq_true h4] at hII ⊢
      clear hcd hpl
      generalize Br.last L = X at *
      generalize Br.prod L (Cv.deg L) = R at *
      generalize Br.mul L = mu at *
      generalize Cv.deg L = n at *
      have HcP := Lib.hid hcP; have HC := Lib.hid hC; have HR := Lib.hid hR; have HI := Lib.hid hI; have HII := Lib.hid hII; have Hrow := Lib.hid hrow; have Hlast := Lib.hid hlast; have Hll := Lib.hid hll
      clear hcP hC hR hI hII hrow hP ha hL hlast hi0 hz0 hz1 hz2 hll
      have hm1 : L.length + 1 ≤ maxLen := by unfold maxLen; omega
      have hm2 : (L.length + 1) * 24 ≤ 140737488355328 := by omega
      go_enter Try.func60, Try.ntmps60
      go_wp2_with fail
      refine HcP.out.mono ?_
      rintro e w1 ⟨rfl, hb1⟩
      have Hb1 := Lib.hid hb1; clear hb1
      go_wp2_with fail
      refine (HC.out w1 Hb1.out).mono ?_
      rintro e w2 ⟨rfl, hh2, hb2⟩
      have Hh2 := Lib.hid hh2; have Hb2 := Lib.hid (Hb1.out.trans (hb2.mono Hb1.out.size))
      have hNN : w1.heap.size ≤ w2.heap.size := hb2.size
      clear hh2 hb2
      go_wp2_with fail
      refine (HR.out w2 Hb2.out).mono ?_
      rintro e w3 ⟨rfl, hl3, hb3⟩
      have Hr3 := Lib.hid (Hrow.out _ _ hl3); have Hb3 := Lib.hid hb3
      clear hl3 hb3
      go_wp2_with fail
      refine (HI.out _ w3 Hr3.out).mono ?_
      rintro e w4 ⟨ra, rc, rfl, hlc, _, hf4, hb4⟩
      have Hlc := Lib.hid hlc
      have Hf4 := Lib.hid (hf4.mono Hb3.out.size); have Hb4 := Lib.hid (Hb3.out.trans (hb4.mono Hb3.out.size))
      rw [Hlast.out]
      clear hf4 hb4 hlc
      obtain ⟨hs, q1, q2, q3, q4⟩ := Hh2.out
      have Hown4 := Lib.hid (own_keep q2 Hb4.out (fun k hk => (q2.lt k hk).2))
      have Hq1 := Lib.hid q1; have Hq3 := Lib.hid q3; have Hq4 := Lib.hid q4
      have hN4 : w1.heap.size ≤ w4.heap.size := Nat.le_trans hNN Hb4.out.size
      clear q1 q2 q3 q4
      go_wp2_with (at_builtin; refine append_one rfl (.tmp 9) (.tmp 13) 24 rfl w1.heap.size 42 i0 _ 24 Try.underlying24 Hi0.out Hz0.out Hz1.out Hz2.out (by rfl) _ _ _ rfl Hown4.out (by rfl) _ rfl hm1 hm2 hN4 ?_; intro v1 w5 hown5 hg5 _; have Hg5 := Lib.hid hg5; have Hown5 := Lib.hid hown5; clear hg5 hown5)
      have hst := grid_step (c := rc) Hq3.out Hq4.out Hown4.out hNN Hf4.out Hb4.out Hg5.out Hlc.out
      have Hb5 := Lib.hid (Below.grown ((Hb2.out.trans (Hb4.out.mono Hb2.out.size)).alloc (Nat.le_trans Hb1.out.size hN4) (.cells #[.slice ra n rc] 42)) Hg5.out (by have := Hb1.out.size; simp; omega) (fun k hk => by have := (Hown4.out.lt k hk).1; have := Hb1.out.size; omega))
      have hheld : Held w5 w1.heap.size v1 (L ++ [X]) := ⟨hs ++ [⟨ra, rc, X⟩], by rw [List.map_append, Hq1.out]; rfl, by rw [Hll.out, ← hdCells_snoc]; have h := Hown5.out; rw [show Hd.val ⟨ra, rc, X⟩ = .slice ra n rc by rw [← Hlast.out]; rfl]; exact h, hst.1, hst.2⟩
      obtain ⟨ga, gc, rfl, hgc, hgm, hg⟩ := hheld.done
      have Hg := Lib.hid hg; have Hgc := Lib.hid hgc
      clear hheld hst hg hgc
      rw [Hll.out]
      go_wp2_with fail
      refine (HII.out ga gc w5 Hg.out.grid).mono ?_
      rintro e w6 ⟨rfl, hb6⟩
      have Hb6 := Lib.hid (Hb5.out.trans (hb6.mono Hb5.out.size)); have Hg6 := Lib.hid (Hg.out.below hb6); have hz := hb6.size
      clear hb6
      go_wp2
      go_ret2
      exact ⟨ga, gc, by rw [Hll.out]; rfl, Hgc.out, hgm, Hg6.out.mono Hb1.out.size hz, Hb6.out⟩
    · rw [Br.closed_not fun h => h4 h.1]
      rw [decide_eq_false h4] at hII ⊢
      clear hcd hpl
      generalize Br.last L = X at *
      generalize Br.prod L (Cv.deg L) = R at *
      generalize Br.mul L = mu at *
      generalize Cv.deg L = n at *
      have HcP := Lib.hid hcP; have HC := Lib.hid hC; have HR := Lib.hid hR; have HI := Lib.hid hI; have HII := Lib.hid hII; have Hrow := Lib.hid hrow; have Hlast := Lib.hid hlast; have Hll := Lib.hid hll
      clear hcP hC hR hI hII hrow hP ha hL hlast hi0 hz0 hz1 hz2 hll
      have hm1 : L.length + 1 ≤ maxLen := by unfold maxLen; omega
      have hm2 : (L.length + 1) * 24 ≤ 140737488355328 := by omega
      go_enter Try.func60, Try.ntmps60
      go_wp2_with fail
      refine HcP.out.mono ?_
      rintro e w1 ⟨rfl, hb1⟩
      have Hb1 := Lib.hid hb1; clear hb1
      go_wp2_with fail
      refine (HC.out w1 Hb1.out).mono ?_
      rintro e w2 ⟨rfl, hh2, hb2⟩
      have Hh2 := Lib.hid hh2; have Hb2 := Lib.hid (Hb1.out.trans (hb2.mono Hb1.out.size))
      have hNN : w1.heap.size ≤ w2.heap.size := hb2.size
      clear hh2 hb2
      go_wp2_with fail
      refine (HR.out w2 Hb2.out).mono ?_
      rintro e w3 ⟨rfl, hl3, hb3⟩
      have Hr3 := Lib.hid (Hrow.out _ _ hl3); have Hb3 := Lib.hid hb3
      clear hl3 hb3
      go_wp2_with fail
      refine (HI.out _ w3 Hr3.out).mono ?_
      rintro e w4 ⟨ra, rc, rfl, hlc, _, hf4, hb4⟩
      have Hlc := Lib.hid hlc
      have Hf4 := Lib.hid (hf4.mono Hb3.out.size); have Hb4 := Lib.hid (Hb3.out.trans (hb4.mono Hb3.out.size))
      rw [Hlast.out]
      clear hf4 hb4 hlc
      obtain ⟨hs, q1, q2, q3, q4⟩ := Hh2.out
      have Hown4 := Lib.hid (own_keep q2 Hb4.out (fun k hk => (q2.lt k hk).2))
      have Hq1 := Lib.hid q1; have Hq3 := Lib.hid q3; have Hq4 := Lib.hid q4
      have hN4 : w1.heap.size ≤ w4.heap.size := Nat.le_trans hNN Hb4.out.size
      clear q1 q2 q3 q4
      go_wp2_with (at_builtin; refine append_one rfl (.tmp 9) (.tmp 13) 24 rfl w1.heap.size 42 i0 _ 24 Try.underlying24 Hi0.out Hz0.out Hz1.out Hz2.out (by rfl) _ _ _ rfl Hown4.out (by rfl) _ rfl hm1 hm2 hN4 ?_; intro v1 w5 hown5 hg5 _; have Hg5 := Lib.hid hg5; have Hown5 := Lib.hid hown5; clear hg5 hown5)
      have hst := grid_step (c := rc) Hq3.out Hq4.out Hown4.out hNN Hf4.out Hb4.out Hg5.out Hlc.out
      have Hb5 := Lib.hid (Below.grown ((Hb2.out.trans (Hb4.out.mono Hb2.out.size)).alloc (Nat.le_trans Hb1.out.size hN4) (.cells #[.slice ra n rc] 42)) Hg5.out (by have := Hb1.out.size; simp; omega) (fun k hk => by have := (Hown4.out.lt k hk).1; have := Hb1.out.size; omega))
      have hheld : Held w5 w1.heap.size v1 (L ++ [X]) := ⟨hs ++ [⟨ra, rc, X⟩], by rw [List.map_append, Hq1.out]; rfl, by rw [Hll.out, ← hdCells_snoc]; have h := Hown5.out; rw [show Hd.val ⟨ra, rc, X⟩ = .slice ra n rc by rw [← Hlast.out]; rfl]; exact h, hst.1, hst.2⟩
      obtain ⟨ga, gc, rfl, hgc, hgm, hg⟩ := hheld.done
      have Hg := Lib.hid hg; have Hgc := Lib.hid hgc
      clear hheld hst hg hgc
      rw [Hll.out]
      go_wp2_with fail
      refine (HII.out ga gc w5 Hg.out.grid).mono ?_
      rintro e w6 ⟨rfl, hb6⟩
      have Hb6 := Lib.hid (Hb5.out.trans (hb6.mono Hb5.out.size))
      clear hb6
      go_wp2
      go_ret2
      exact GivesRows2.none Hb6.out (by unfold maxLen; omega)
  · rw [decide_eq_false hP] at hcP
    rw [Br.closed_not fun h => hP h.2, decide_eq_false fun h : Br.CloseOk L => hP h.2]
    have HcP := Lib.hid hcP
    clear hcP hP ha hL
    go_enter Try.func60, Try.ntmps60
    go_wp2_with fail
    refine HcP.out.mono ?_
    rintro e w1 ⟨rfl, hb1⟩
    have Hb1 := Lib.hid hb1; clear hb1
    go_wp2
    go_ret2
    exact GivesRows2.none Hb1.out (by unfold maxLen; omega)
end Go.Proofs.Ytpebgompfgkljaa
