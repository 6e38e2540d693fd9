/-
  The walk of the program's list of all orders.
-/
import Derived.Test.YtodgongemoabiaaBase
import Derived.Test.YtodgongemoabiaaSlice
import Derived.Test.YtodgongemoabiaaIntRow
import Derived.Test.YtodgongemoabiaaInts
import Derived.Test.YtodgongemoabiaaOwn
import Derived.Test.YtodgongemoabiaaAppend
import Derived.Test.YtodgongemoabiaaGrid
import Derived.Test.YtodgongemoabiaaGridWalk
import Derived.Test.YtodgongemoabiaaGridRows
import Derived.Test.YtodgongemoabiaaRowsLit
import Derived.Test.YtodgongemoabiaaGridS
import Derived.Test.YtodgongemoabiaaClass
import Derived.Test.YtodgongemoabiaaLab
import Derived.Test.YtodgongemoabiaaMap
import Derived.Test.YtodgongemoabiaaMapB
import Derived.Test.YtodgongemoabiaaMapTopo
import Derived.Test.YtodgongemoabiaaCov
import Derived.Test.YtodgongemoabiaaCovAll
import Derived.Test.YtodgongemoabiaaIns
import Derived.Deep.QuietTactic
import Derived.BigQuiet
import Derived.StillTailTactics
namespace Go.Proofs.Ytodgongemoabiaa
open Go.RowKit

theorem Cv.put_ints (o : List Nat) (x p : Nat) : (intsOf o).take p ++ [(x : Int)] ++ (intsOf o).drop p = intsOf (Gr.put o x p) := by
  unfold Gr.put; simp [intsOf]
set_option maxRecDepth 10000 in
set_option maxHeartbeats 8000000 in
theorem impl_allPermutations (n : Nat) (w : World) (hn : n ≤ 5) :
    Calls Try.prog 156 #[.int .i64 (n : Int)] w fun e w' => GivesRows w (Mp.natRows (Cv.all n)) e w' := by
  obtain ⟨i1, hi1, hy0, hy1, hy2⟩ := info_ints_parts
  have Hi1 := Lib.hid hi1; have Hy0 := Lib.hid hy0; have Hy1 := Lib.hid hy1; have Hy2 := Lib.hid hy2
  clear hi1 hy0 hy1 hy2
  obtain ⟨N, hN⟩ : ∃ N, N = w.heap.size := ⟨_, rfl⟩
  have HN := Lib.hid hN
  have hst : GridIn (w.alloc (.cells #[.slice none 0 0] 42)) N (w.alloc (.cells #[.slice none 0 0] 42)).heap.size (some ⟨w.heap.size, 0, none⟩) (Mp.natRows (Cv.all 0)) := by
    have hb := Blk.new w 42 #[.slice none 0 0]
    exact ⟨[⟨none, 0, []⟩], rfl, RowIn.of_blk hb (by omega) hb.lt, fun h hh => by rw [List.mem_singleton.1 hh]; exact Or.inl rfl, Apts.one (Nat.le_refl _)⟩
  have hst2 : Below N w (w.alloc (.cells #[.slice none 0 0] 42)) := (Below.refl N w).alloc (by omega) _
  have hst3 : (w.alloc (.cells #[.slice none 0 0] 42)).cell? ⟨w.heap.size, 0, none⟩ = some (.slice none 0 0) := (Blk.new w 42 #[.slice none 0 0]).cell 0
  have Hst := Lib.hid hst; have Hst2 := Lib.hid hst2; have Hst3 := Lib.hid hst3
  clear hst hst2 hst3 hN
  go_enter Try.func156, Try.ntmps156
  go_wp2
  go_loopw [3, 4, 5, 7, 8, 11] (fun ov _ _ _ _ kv wr => ∃ k : Nat, k ≤ n ∧ kv = .int .i64 k ∧ ∃ ao co, ov = .slice ao (Cv.all k).length co ∧ Hid (GridIn wr N wr.heap.size ao (Mp.natRows (Cv.all k))) ∧ Hid (Below N w wr) ∧ Hid ((Cv.all k).length ≤ co ∧ co ≤ maxLen) ∧ Hid (k = 0 → ∃ g, ao = some ⟨g, 0, none⟩ ∧ wr.cell? ⟨g, 0, none⟩ = some (.slice none 0 0))) (fun _ _ _ _ _ kv _ => n - (intOf kv).toNat)
  case atStart => exact ⟨0, by omega, rfl, _, _, rfl, Hst, Hst2, Lib.hid (by show 1 ≤ 1 ∧ 1 ≤ maxLen; unfold maxLen; omega), Lib.hid (fun _ => ⟨_, rfl, Hst3.out⟩)⟩
  case round =>
    clear Hst Hst2 Hst3
    obtain ⟨k, hk, rfl, ao, co, rfl, hgr, hb, hco, hnil⟩ := hrel
    obtain ⟨wo, hwo⟩ : ∃ wo, wo = wr := ⟨_, rfl⟩
    subst hwo
    by_cases hlt : k < n
    · have hO5 := Cv.all_few (show k ≤ 5 by omega)
      have hOk : ∀ o ∈ Cv.all k, o.length = k := fun o ho => Cv.all_row ho
      have hO1 : Cv.all (k + 1) = Cv.allStep (Cv.all k) k := rfl
      have hO0 : k = 0 → Cv.all k = [[]] := fun e => by rw [e]; rfl
      have Hlt := Lib.hid hlt
      generalize hOd : Cv.all k = O at *
      have HO1 := Lib.hid hO1; have HOk := Lib.hid hOk; have HO0 := Lib.hid hO0
      have hk5 : (k : Int) ≤ 5 := by omega
      have h0k : (0 : Int) ≤ (k : Int) := by omega
      have dlt : decide (k < n) = true := decide_eq_true hlt
      clear hlt hO1 hOk hOd hO0
      go_wp2
      go_loopw [5, 7, 8, 16] (fun nv _ _ iv wr => ∃ i : Nat, i ≤ O.length ∧ iv = .int .i64 i ∧ Hid (RowsIn wo wo.heap.size wr nv (Mp.natRows (Cv.allTo O k i 0)))) (fun _ _ _ iv _ => O.length - (intOf iv).toNat)
      case atStart => exact ⟨0, Nat.zero_le _, rfl, Lib.hid (RowsIn.nil (Below.refl _ _))⟩
      case round =>
        obtain ⟨i, hi, rfl, hrows⟩ := hrel
        by_cases hlt2 : i < O.length
        · obtain ⟨o, ho⟩ := get_some hlt2
          have hol := HOk.out o (get_mem ho)
          obtain ⟨hs0, ehs, hri, hrin, hapt⟩ := hgr.out
          obtain ⟨bo, oo, ai, ci, rfl, hbo, hcellg, hrowg⟩ := hgr.out.grid.get (natRows_get ho)
          rw [intsOf_len, hol] at hcellg
          have hbl0 : Below wo.heap.size wo wr := by obtain ⟨_, _, _, _, _, h⟩ := hrows.out; exact h
          have hcell : wr.cell? ⟨bo, oo + i, none⟩ = some (.slice ai k ci) := by rw [hbl0.cell hbo]; exact hcellg
          have hnx := Cv.allTo_next (x := k) ho
          have hgd : O.getD i [] = o := by rw [List.getD_eq_getElem?_getD, ho]; rfl
          have hai : k = 0 → ai = none ∧ ci = 0 := fun e => by
            obtain ⟨g, e1, e2⟩ := hnil.out e
            have hi0 : i = 0 := by have := congrArg List.length (HO0.out e); simp at this; omega
            cases e1
            subst hi0
            rw [Nat.add_zero] at hcellg
            rw [e2] at hcellg
            have := Option.some.inj hcellg
            injection this with h1 h2 h3
            exact ⟨h1.symm, h3.symm⟩
          have Hrow := Lib.hid (fun W (h : Below wo.heap.size wo W) => hrowg.below h); have Hnx := Lib.hid hnx; have Hgd := Lib.hid hgd; have Hol := Lib.hid hol; have Hai := Lib.hid hai
          have Hlt2 := Lib.hid hlt2
          have h0i : (0 : Int) ≤ (i : Int) := by omega
          have h1i : (i : Int) < (O.length : Int) := by omega
          clear hlt2 hcellg hrowg hnx hgd ho hol hai ehs hri hrin hapt hbl0
          go_wp2
          clear hcell
          go_loopw [5, 8, 22] (fun nv _ tv wr => ∃ j : Nat, j ≤ k + 1 ∧ tv = .int .i64 j ∧ Hid (RowsIn wo wo.heap.size wr nv (Mp.natRows (Cv.allTo O k i j)))) (fun _ _ tv _ => k + 1 - (intOf tv).toNat)
          case atStart => exact ⟨0, Nat.zero_le _, rfl, hrows⟩
          case round =>
            clear hrows
            obtain ⟨p, hp, rfl, hrows⟩ := hrel
            by_cases hlt3 : p < k + 1
            · have d3 : (p : Int) < (k : Int) + 1 := by omega
              obtain ⟨hs, e1, hown, hin, hap, hbl⟩ := hrows.out
              have hwo : wo.heap.size ≤ wr.heap.size := hbl.size
              have hmore := Cv.allTo_more O k i p
              rw [Hgd.out] at hmore
              have hlnj := Cv.allTo_len (O := O) (x := k) (i := i) (j := p) (by omega)
              have hlnb : (O.length + 1) * (k + 1) ≤ 121 * 6 := Nat.mul_le_mul (by omega) (by omega)
              obtain ⟨av, cv, rfl⟩ := own_len hown
              rw [Cv.natRows_size] at hown ⊢
              have hpl : (intsOf (Gr.put o k p)).length = k + 1 := by rw [intsOf_len, Cv.put_len o (by rw [Hol.out]; omega), Hol.out]
              have hpush := fun w9 (hb9 : Below wr.heap.size wr w9) ta tc (hf : Fresh w9 wr.heap.size 3 ta (intCells (intsOf (Gr.put o k p)))) (htc : k + 1 ≤ tc) v11 w11 (h11 : w11.ownsRow wo.heap.size 42 1 v11 ((Cv.allTo O k i p).length + 1) (hdCells hs ++ [.slice ta (k + 1) tc])) (hg11 : (w9.alloc (.cells #[.slice ta (k + 1) tc] 42)).grownBy w11 (Value.slice av (Cv.allTo O k i p).length cv).ownBlock) => (show RowsIn wo wo.heap.size w11 v11 (Mp.natRows (Cv.allTo O k i (p + 1))) by
                rw [hmore, Cv.natRows_more]
                refine RowsIn.push (c := tc) (a := ta) (l := intsOf (Gr.put o k p)) e1 (by rw [Cv.natRows_size]; exact hown) hin hap hbl hwo hb9 hf (by rw [hpl]; exact htc) (by rw [Cv.natRows_size, hpl]; exact h11) hg11)
              have hnow := fun W (h : Below wr.heap.size wr W) => own_keep hown h (fun k hk => (hown.lt k hk).2)
              have q1 : (Cv.allTo O k i p).length + 1 ≤ maxLen := by unfold maxLen; omega
              have q2 : ((Cv.allTo O k i p).length + 1) * 24 ≤ 140737488355328 := by omega
              have hr0 : (intCells (intsOf (Gr.put o k p))).length = k + 1 := by rw [intCells_len]; exact hpl
              have hRow := Hrow.out wr hbl
              have Hpush := Lib.hid hpush; have Hnow := Lib.hid hnow; have Hr0 := Lib.hid hr0
              have hpk : p ≤ k := by omega
              clear hpl hpush hnow hmore hlnj hlnb hin hap hown e1 hrows hlt3 hr0
              generalize (Cv.allTo O k i p).length = nl at *
              by_cases hk0 : k = 0
              · obtain ⟨rfl, rfl⟩ := Hai.out hk0
                have hp0 : (p : Int) = 0 := by omega
                have Hp0 := Lib.hid hp0
                have Hput := Lib.hid (show intsOf (Gr.put o k p) = [(k : Int)] from by
                  have ho0 : o = [] := List.eq_nil_of_length_eq_zero (by rw [Hol.out]; exact hk0)
                  rw [ho0]; unfold Gr.put; simp [intsOf])
                have Hk0 := Lib.hid hk0
                clear hp0 hk0
                go_wp2_with fail
                refine (lib_CloneNil k Hk0.out wr).mono ?_
                rintro e w2 ⟨rfl, hb2⟩
                have hlitb : Below w2.heap.size w2 (w2.alloc (.cells #[.int .i64 (k : Int)] 3)) := (Below.refl _ _).alloc (Nat.le_refl _) _
                have hI := lib_InsertNil wr.heap.size w2.heap.size 1 (k : Int) (p : Int) Hp0.out (w2.alloc (.cells #[.int .i64 (k : Int)] 3)) (Nat.le_trans hb2.size hlitb.size) (Blk.new w2 _ _)
                have hb3 := hb2.trans (hlitb.mono hb2.size)
                have HI := Lib.hid hI; have Hb3 := Lib.hid hb3
                clear hI hb3 hlitb hb2
                go_wp2_with fail
                refine HI.out.mono ?_
                rintro e w9 ⟨v9, rfl, hown9, hbb9⟩
                have hb9 := Hb3.out.trans (hbb9.mono Hb3.out.size)
                rw [← Hput.out] at hown9
                have hown9' : w9.ownsRow wr.heap.size 3 1 v9 (k + 1) (intCells (intsOf (Gr.put o k p))) := by
                  have h1 := hown9
                  have e : k = 0 := Hk0.out
                  rw [show k + 1 = 1 by omega]; exact h1
                obtain ⟨ta, tc, rfl, htc', hf9⟩ := own_fresh hown9' Hr0.out
                have Hb9 := Lib.hid hb9; have Hf9 := Lib.hid hf9; have Hnow9 := Lib.hid (Hnow.out w9 hb9)
                have hz9 : wo.heap.size ≤ w9.heap.size := Nat.le_trans hwo hb9.size
                clear hown9 hown9' hbb9 hb9 hf9
                go_wp2_with (at_builtin; refine append_one rfl (.tmp 25) (.tmp 32) 24 rfl wo.heap.size 42 i1 _ 24 Try.underlying24 Hi1.out Hy0.out Hy1.out Hy2.out (by rfl) _ _ _ rfl Hnow9.out (by rfl) _ rfl q1 q2 hz9 ?_; intro v11 w11 hown11 hg11 _; obtain ⟨av11, cv11, rfl⟩ := own_len hown11; have HP := Lib.hid (Hpush.out w9 Hb9.out ta tc Hf9.out htc' _ w11 hown11 hg11); clear hown11 hg11)
                go_roundw
                case rel => exact ⟨p + 1, by omega, by go_num, HP⟩
                case measure => simp [intOf]; omega
              · have hcl := lib_Clone ai ci (intsOf o) wr hRow (by rw [intsOf_len, Hol.out]; omega) (by rw [intsOf_len, Hol.out]; omega)
                rw [intsOf_len, Hol.out] at hcl
                have Hcl := Lib.hid hcl
                have hp0 : (0 : Int) ≤ (p : Int) := by omega
                clear hcl hRow
                go_wp2_with fail
                refine Hcl.out.mono ?_
                rintro e w2 ⟨⟨g, cap, rfl, hown2, hc1, hc2⟩, hb2⟩
                have hlitb : Below w2.heap.size w2 (w2.alloc (.cells #[.int .i64 (k : Int)] 3)) := (Below.refl _ _).alloc (Nat.le_refl _) _
                have hgl := (hown2.lt g rfl)
                have hI := lib_Insert wr.heap.size g cap k p w2.heap.size 1 (intsOf o) (k : Int) (w2.alloc (.cells #[.int .i64 (k : Int)] 3)) (by rw [intsOf_len]; exact Hol.out) (hown2.alloc _) hpk (by omega) (Nat.le_trans hb2.size hlitb.size) (Blk.new w2 _ _) (by omega)
                have hb3 := hb2.trans (hlitb.mono hb2.size)
                have HI := Lib.hid hI; have Hb3 := Lib.hid hb3
                clear hI hb3 hlitb hown2 hb2 hc1 hc2
                go_wp2_with fail
                refine HI.out.mono ?_
                rintro e w9 ⟨v9, rfl, hown9, hg9⟩
                have hb9 := Below.grown Hb3.out hg9 Hb3.out.size (fun q hq => by cases hq; exact hgl.1)
                rw [Cv.put_ints] at hown9
                obtain ⟨ta, tc, rfl, htc, hf9⟩ := own_fresh hown9 Hr0.out
                have Hb9 := Lib.hid hb9; have Hf9 := Lib.hid hf9; have Hnow9 := Lib.hid (Hnow.out w9 hb9)
                have hz9 : wo.heap.size ≤ w9.heap.size := Nat.le_trans hwo hb9.size
                clear hown9 hg9 hb9 hf9
                go_wp2_with (at_builtin; refine append_one rfl (.tmp 25) (.tmp 32) 24 rfl wo.heap.size 42 i1 _ 24 Try.underlying24 Hi1.out Hy0.out Hy1.out Hy2.out (by rfl) _ _ _ rfl Hnow9.out (by rfl) _ rfl q1 q2 hz9 ?_; intro v11 w11 hown11 hg11 _; obtain ⟨av11, cv11, rfl⟩ := own_len hown11; have HP := Lib.hid (Hpush.out w9 Hb9.out ta tc Hf9.out htc _ w11 hown11 hg11); clear hown11 hg11)
                go_roundw
                case rel => exact ⟨p + 1, by omega, by go_num, HP⟩
                case measure => simp [intOf]; omega
            · obtain rfl : p = k + 1 := by omega
              rw [Hnx.out] at hrows
              have d3 : ¬ ((k + 1 : Nat) : Int) < (k : Int) + 1 := by omega
              clear hlt3 hp
              generalize ((k + 1 : Nat) : Int) = z at *
              go_wp2
              go_roundw
              case rel => exact ⟨i + 1, Hlt2.out, by go_num, hrows⟩
              case measure => have := Hlt2.out; simp [intOf] <;> omega
        · obtain rfl : i = O.length := by omega
          have hrw := hrows.out
          rw [Cv.allTo_end, ← HO1.out] at hrw
          obtain ⟨a2, c2, rfl, hg2, hb2, hc1, hc2⟩ := hrw.gridIn
          have hNo : N ≤ wo.heap.size := by have := hb.out.size; have := HN.out; omega
          have Hg2 := Lib.hid (hg2.mono hNo (Nat.le_refl _))
          have Hb2 := Lib.hid (hb.out.trans (hb2.mono hNo))
          have hlen : (Mp.natRows (Cv.all (k + 1))).length = (Cv.all (k + 1)).length := Cv.natRows_size _
          rw [hlen] at hc1 ⊢
          have Hc := Lib.hid (And.intro hc1 hc2)
          clear hc1 hc2
          clear hrw hg2 hb2 hlt2 hlen
          go_wp2
          go_roundw
          case rel => exact ⟨k + 1, Hlt.out, by go_num, _, _, rfl, Hg2, Hb2, Hc, Lib.hid (fun h => absurd h (by omega))⟩
          case measure => have := Hlt.out; simp [intOf] <;> omega
    · obtain rfl : n = k := by omega
      clear hlt
      go_wp2
      go_ret
      have hg := hgr.out
      rw [HN.out] at hg
      have hc := hco.out
      exact ⟨_, _, by rw [Cv.natRows_size]; rfl, by rw [Cv.natRows_size]; exact hc.1, hc.2, hg, by have := hb.out; rw [HN.out] at this; exact this⟩
end Go.Proofs.Ytodgongemoabiaa
