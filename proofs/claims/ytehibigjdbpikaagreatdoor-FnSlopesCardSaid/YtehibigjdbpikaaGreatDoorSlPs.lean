/-
  Slopes out of their texts: the walks of ParseSlope, the program's and the model's.
-/
import Derived.Test.YtehibigjdbpikaaGreatDoorBase
import Derived.Test.YtehibigjdbpikaaGreatDoorSlice
import Derived.Test.YtehibigjdbpikaaGreatDoorIntRow
import Derived.Test.YtehibigjdbpikaaGreatDoorInts
import Derived.Test.YtehibigjdbpikaaGreatDoorStrs
import Derived.Test.YtehibigjdbpikaaGreatDoorOwn
import Derived.Test.YtehibigjdbpikaaGreatDoorSplit
import Derived.Test.YtehibigjdbpikaaGreatDoorFmt
import Derived.Test.YtehibigjdbpikaaGreatDoorNum
import Derived.Test.YtehibigjdbpikaaGreatDoorRead
import Derived.Test.YtehibigjdbpikaaGreatDoorParse
import Derived.Test.YtehibigjdbpikaaGreatDoorShelfCut
import Derived.Test.YtehibigjdbpikaaGreatDoorTw
import Derived.Test.YtehibigjdbpikaaGreatDoorTwErr
import Derived.Test.YtehibigjdbpikaaGreatDoorSl
import Derived.Test.YtehibigjdbpikaaGreatDoorSlK
import Derived.Test.YtehibigjdbpikaaGreatDoorSlA
import Derived.Test.YtehibigjdbpikaaGreatDoorSlB
import Derived.Test.YtehibigjdbpikaaGreatDoorSlS
namespace Go.Proofs.YtehibigjdbpikaaGreatDoor
open Go.RowKit

namespace Sl
/-- What two texts give. -/
def both (a b : List UInt8) : (Int × Int) × Bool :=
  if ((Num.rd 12 a).2 && (Num.rd 12 b).2 && decide (Is (Num.rd 12 a).1 (Num.rd 12 b).1)) = true then (((Num.rd 12 a).1, (Num.rd 12 b).1), true) else ((0, 0), false)
def parse (l : List UInt8) : (Int × Int) × Bool := match Split.parts 47 l with
  | [a, b] => both a b
  | _ => ((0, 0), false)
def parsed (s : ByteArray) : Int × Int := (parse s.data.toList).1
def ParseOk (s : ByteArray) : Prop := (parse s.data.toList).2 = true
instance (s : ByteArray) : Decidable (ParseOk s) := by unfold ParseOk; exact inferInstance
theorem ok_dec (s : ByteArray) : decide (ParseOk s) = (parse s.data.toList).2 := by
  cases h : (parse s.data.toList).2 with
  | false => exact decide_eq_false (by unfold ParseOk; rw [h]; decide)
  | true => exact decide_eq_true h
theorem itoa_free (n : Int) : (47 : UInt8) ∉ Lib.itoa n := by
  have h := Num.digits_all n.natAbs
  intro hm
  have hd : (47 : UInt8) ∉ Lib.decDigits n.natAbs := fun k => by
    have := List.all_eq_true.1 h _ k
    exact absurd this (by decide)
  rcases Int.lt_or_le n 0 with h0 | h0
  · rw [Num.itoa_neg h0] at hm
    rcases List.mem_cons.1 hm with e | e
    · exact absurd e (by decide)
    · exact hd e
  · rw [Num.itoa_pos h0] at hm
    exact hd hm
theorem rd_free {l : List UInt8} (h : (47 : UInt8) ∈ l) : (Num.rd 12 l).2 = false := by
  cases hb : (Num.rd 12 l).2 with
  | false => rfl
  | true =>
    have e := (Num.rd_true (k := 12) (l := l) (n := (Num.rd 12 l).1) (by rw [← hb])).1
    rw [← e] at h
    exact absurd h (itoa_free _)
theorem both_bad {a b : List UInt8} (h : (Num.rd 12 b).2 = false) : both a b = ((0, 0), false) := by
  unfold both; rw [h]; simp
theorem parse_cut (l : List UInt8) : parse l = both (Lib.cut l [47]).1 (Lib.cut l [47]).2.1 := by
  unfold parse
  rcases Split.find 47 l with ⟨h1, h2⟩ | ⟨p, r, rfl, h1, h2⟩
  · rw [Split.parts_none _ _ h1]
    have : Lib.cut l [47] = (l, [], false) := by unfold Lib.cut; rw [Lib.index_one, h2, if_neg (by decide)]
    rw [this]
    exact (both_bad (by rfl)).symm
  · have hc : Lib.cut (p ++ 47 :: r) [47] = (p, r, true) := by
      unfold Lib.cut
      rw [Lib.index_one, h2, if_pos (by omega)]
      have e1 : (p.length : Int).toNat = p.length := by omega
      have e2 : p.length + [(47 : UInt8)].length = p.length + 1 := rfl
      rw [e1, e2, List.take_left]
      have e3 : (p ++ 47 :: r).drop (p.length + 1) = r := by rw [← List.drop_drop, List.drop_left]; rfl
      rw [e3]
    rw [hc, Split.parts_hit _ _ _ h1]
    rcases Split.find 47 r with ⟨h3, _⟩ | ⟨p2, r2, rfl, h3, _⟩
    · rw [Split.parts_none _ _ h3]
    · rw [Split.parts_hit _ _ _ h3]
      obtain ⟨x, xs, hx⟩ := Split.parts_cons 47 r2
      rw [hx]
      exact (both_bad (rd_free (by simp))).symm
theorem cut_len (l sep : List UInt8) : (Lib.cut l sep).1.length ≤ l.length ∧ (Lib.cut l sep).2.1.length ≤ l.length := by
  unfold Lib.cut
  split
  · exact ⟨by simp only [List.length_take]; omega, by simp only [List.length_drop]; omega⟩
  · exact ⟨Nat.le_refl _, Nat.zero_le _⟩
theorem parse_pieces {s a b : ByteArray} (h : Split.pieces 47 s = [a, b]) : parse s.data.toList = both a.data.toList b.data.toList := by
  have := Split.pieces_data 47 s
  rw [h] at this
  unfold parse
  rw [← this]
  rfl
theorem parse_other {s : ByteArray} (h : (Split.pieces 47 s).length ≠ 2) : parse s.data.toList = ((0, 0), false) := by
  have := congrArg List.length (Split.pieces_data 47 s)
  rw [List.length_map] at this
  rw [this] at h
  unfold parse
  split
  · rename_i e; rw [e] at h; exact absurd rfl h
  · rfl
end Sl
theorem shaped_below {P : Program} {w w' : World} (h : w.ShapedOpen P) (hb : Below w.heap.size w w') : w'.ShapedOpen P := h.keptBut (hb.frame (fun _ => False)) (fun _ h => h.elim)

set_option maxRecDepth 10000 in
set_option maxHeartbeats 2000000 in
theorem impl_ParseSlope (s : ByteArray) (w : World) (hs : s.size ≤ 1048576) (hE : Errs w) (hL : Laid w) (hsh : w.ShapedOpen Tryz.prog) :
    Calls Tryz.prog 44 #[.string s] w fun e w' => GivesSl w (Sl.parsed s) (decide (Sl.ParseOk s)) e w' := by
  rw [Sl.ok_dec]
  unfold Sl.parsed
  rw [Sl.parse_cut]
  have hR := Blk.new w 44 #[.int .i64 0, .int .i64 0]
  have hl := (Below.refl w.heap.size w).alloc (Nat.le_refl _) (.cells #[.int .i64 0, .int .i64 0] 44)
  have hcl := Sl.cut_len s.data.toList [47]
  have hc := Tryz.strings_Cut_shaped s ⟨#[47]⟩ _ (shaped_below hsh hl) (by omega)
  rw [show (⟨#[47]⟩ : ByteArray).data.toList = [47] from rfl] at hc
  have hsz : s.size = s.data.toList.length := Array.length_toList.symm
  obtain ⟨A, hA⟩ : ∃ A : ByteArray, (⟨(Lib.cut s.data.toList [47]).1.toArray⟩ : ByteArray) = A := ⟨_, rfl⟩
  obtain ⟨B, hB⟩ : ∃ B : ByteArray, (⟨(Lib.cut s.data.toList [47]).2.1.toArray⟩ : ByteArray) = B := ⟨_, rfl⟩
  have eA : (Lib.cut s.data.toList [47]).1 = A.data.toList := by rw [← hA]
  have eB : (Lib.cut s.data.toList [47]).2.1 = B.data.toList := by rw [← hB]
  rw [hA, hB] at hc
  rw [eA, eB] at hcl
  rw [eA, eB]
  generalize (Lib.cut s.data.toList [47]).2.2 = found at hc
  have sA : A.size ≤ 1048576 := by rw [show A.size = A.data.toList.length from Array.length_toList.symm]; omega
  have sB : B.size ≤ 1048576 := by rw [show B.size = B.data.toList.length from Array.length_toList.symm]; omega
  have hPA := fun W (hb : Below w.heap.size w W) => impl_ParseInt A W sA (hL.keeps hb)
  have hPB := fun W (hb : Below w.heap.size w W) => impl_ParseInt B W sB (hL.keeps hb)
  have hI := fun p q W (hb : Below w.heap.size w W) => impl_IsSlope p q W (hE.keeps hb)
  unfold Sl.both
  generalize Num.rd 12 A.data.toList = ra at *
  generalize Num.rd 12 B.data.toList = rb at *
  obtain ⟨p, b1⟩ := ra
  obtain ⟨q, b2⟩ := rb
  dsimp only at hPA hPB ⊢
  have hIpq := hI p q
  generalize hv : decide (Sl.Is p q) = v at hIpq ⊢
  have HC := Lib.hid hc; have HA := Lib.hid hPA; have HB := Lib.hid hPB; have HI := Lib.hid hIpq; have HR := Lib.hid hR; have Hl := Lib.hid hl
  clear hR hl hcl hc hsz hA hB eA eB sA sB hPA hPB hI hIpq hv hE hL hsh hs
  cases b1 with
  | false =>
    rw [show (if (false && b2 && v) = true then ((p, q), true) else ((0, 0), false)) = (((0 : Int), (0 : Int)), false) from if_neg (by simp)]
    go_enter Tryz.func44, Tryz.ntmps44
    go_wp2_with fail
    refine HC.out.mono ?_
    rintro e w1 ⟨rfl, hw⟩
    have hb : Below (w.alloc (.cells #[.int .i64 0, .int .i64 0] 44)).heap.size (w.alloc (.cells #[.int .i64 0, .int .i64 0] 44)) w1 := by obtain ⟨n, rfl⟩ := hw; exact below_drewN (Below.refl _ _) _
    clear hw
    have hR := HR.out.below hb HR.out.lt
    obtain ⟨_, _, _, _⟩ := hR.four
    have hl := Hl.out.trans (hb.mono Hl.out.size)
    have HR := Lib.hid hR; have Hl := Lib.hid hl
    clear hb hR hl
    go_wp2_with fail
    refine (HA.out _ Hl.out).mono ?_
    rintro e w2 ⟨rfl, hb⟩
    have hR := HR.out.below hb HR.out.lt
    obtain ⟨_, _, _, _⟩ := hR.four
    have hl := Hl.out.trans (hb.mono Hl.out.size)
    have HR := Lib.hid hR; have Hl := Lib.hid hl
    clear hb hR hl
    go_wp2_with fail
    refine (HB.out _ Hl.out).mono ?_
    rintro e w3 ⟨rfl, hb⟩
    have hR := HR.out.below hb HR.out.lt
    obtain ⟨_, _, _, _⟩ := hR.four
    have hl := Hl.out.trans (hb.mono Hl.out.size)
    have HR := Lib.hid hR; have Hl := Lib.hid hl
    clear hb hR hl
    obtain ⟨_, _, _, _⟩ := (HR.out.alloc (.cells #[.int .i64 p, .int .i64 q] 44)).four
    go_wp2
    exact bodyPost_ret (results_cell_slot rfl _ _ w.heap.size 44 #[.int .i64 0, .int .i64 0] (0, 0) _ rfl (HR.out.alloc _).put2 Tryz.underlying44 rfl (by kernel_rfl)) rfl ⟨rfl, below_put2 (Hl.out.alloc Hl.out.size _) (Nat.le_refl _) _ _⟩
  | true =>
    cases b2 with
    | false =>
      rw [show (if (true && false && v) = true then ((p, q), true) else ((0, 0), false)) = (((0 : Int), (0 : Int)), false) from if_neg (by simp)]
      go_enter Tryz.func44, Tryz.ntmps44
      go_wp2_with fail
      refine HC.out.mono ?_
      rintro e w1 ⟨rfl, hw⟩
      have hb : Below (w.alloc (.cells #[.int .i64 0, .int .i64 0] 44)).heap.size (w.alloc (.cells #[.int .i64 0, .int .i64 0] 44)) w1 := by obtain ⟨n, rfl⟩ := hw; exact below_drewN (Below.refl _ _) _
      clear hw
      have hR := HR.out.below hb HR.out.lt
      obtain ⟨_, _, _, _⟩ := hR.four
      have hl := Hl.out.trans (hb.mono Hl.out.size)
      have HR := Lib.hid hR; have Hl := Lib.hid hl
      clear hb hR hl
      go_wp2_with fail
      refine (HA.out _ Hl.out).mono ?_
      rintro e w2 ⟨rfl, hb⟩
      have hR := HR.out.below hb HR.out.lt
      obtain ⟨_, _, _, _⟩ := hR.four
      have hl := Hl.out.trans (hb.mono Hl.out.size)
      have HR := Lib.hid hR; have Hl := Lib.hid hl
      clear hb hR hl
      go_wp2_with fail
      refine (HB.out _ Hl.out).mono ?_
      rintro e w3 ⟨rfl, hb⟩
      have hR := HR.out.below hb HR.out.lt
      obtain ⟨_, _, _, _⟩ := hR.four
      have hl := Hl.out.trans (hb.mono Hl.out.size)
      have HR := Lib.hid hR; have Hl := Lib.hid hl
      clear hb hR hl
      obtain ⟨_, _, _, _⟩ := (HR.out.alloc (.cells #[.int .i64 p, .int .i64 q] 44)).four
      go_wp2
      exact bodyPost_ret (results_cell_slot rfl _ _ w.heap.size 44 #[.int .i64 0, .int .i64 0] (0, 0) _ rfl (HR.out.alloc _).put2 Tryz.underlying44 rfl (by kernel_rfl)) rfl ⟨rfl, below_put2 (Hl.out.alloc Hl.out.size _) (Nat.le_refl _) _ _⟩
    | true =>
      cases v with
      | false =>
        rw [show (if (true && true && false) = true then ((p, q), true) else ((0, 0), false)) = (((0 : Int), (0 : Int)), false) from if_neg (by simp)]
        go_enter Tryz.func44, Tryz.ntmps44
        go_wp2_with fail
        refine HC.out.mono ?_
        rintro e w1 ⟨rfl, hw⟩
        have hb : Below (w.alloc (.cells #[.int .i64 0, .int .i64 0] 44)).heap.size (w.alloc (.cells #[.int .i64 0, .int .i64 0] 44)) w1 := by obtain ⟨n, rfl⟩ := hw; exact below_drewN (Below.refl _ _) _
        clear hw
        have hR := HR.out.below hb HR.out.lt
        obtain ⟨_, _, _, _⟩ := hR.four
        have hl := Hl.out.trans (hb.mono Hl.out.size)
        have HR := Lib.hid hR; have Hl := Lib.hid hl
        clear hb hR hl
        go_wp2_with fail
        refine (HA.out _ Hl.out).mono ?_
        rintro e w2 ⟨rfl, hb⟩
        have hR := HR.out.below hb HR.out.lt
        obtain ⟨_, _, _, _⟩ := hR.four
        have hl := Hl.out.trans (hb.mono Hl.out.size)
        have HR := Lib.hid hR; have Hl := Lib.hid hl
        clear hb hR hl
        go_wp2_with fail
        refine (HB.out _ Hl.out).mono ?_
        rintro e w3 ⟨rfl, hb⟩
        have hR := HR.out.below hb HR.out.lt
        obtain ⟨_, _, _, _⟩ := hR.four
        have hl := Hl.out.trans (hb.mono Hl.out.size)
        have HR := Lib.hid hR; have Hl := Lib.hid hl
        clear hb hR hl
        go_wp2_with fail
        refine (HI.out _ (Hl.out.alloc Hl.out.size _)).mono ?_
        rintro e w4 ⟨rfl, hb⟩
        have hR := (HR.out.alloc (.cells #[.int .i64 p, .int .i64 q] 44)).below hb (HR.out.alloc (.cells #[.int .i64 p, .int .i64 q] 44)).lt
        obtain ⟨_, _, _, _⟩ := hR.four
        have hl := (Hl.out.alloc Hl.out.size (.cells #[.int .i64 p, .int .i64 q] 44)).trans (hb.mono (Hl.out.alloc Hl.out.size (.cells #[.int .i64 p, .int .i64 q] 44)).size)
        have HR := Lib.hid hR; have Hl := Lib.hid hl
        clear hb hR hl
        go_wp2
        exact bodyPost_ret (results_cell_slot rfl _ _ w.heap.size 44 #[.int .i64 0, .int .i64 0] (0, 0) _ rfl HR.out.put2 Tryz.underlying44 rfl (by kernel_rfl)) rfl ⟨rfl, below_put2 Hl.out (Nat.le_refl _) _ _⟩
      | true =>
        rw [show (if (true && true && true) = true then ((p, q), true) else ((0, 0), false)) = ((p, q), true) from if_pos (by simp)]
        go_enter Tryz.func44, Tryz.ntmps44
        go_wp2_with fail
        refine HC.out.mono ?_
        rintro e w1 ⟨rfl, hw⟩
        have hb : Below (w.alloc (.cells #[.int .i64 0, .int .i64 0] 44)).heap.size (w.alloc (.cells #[.int .i64 0, .int .i64 0] 44)) w1 := by obtain ⟨n, rfl⟩ := hw; exact below_drewN (Below.refl _ _) _
        clear hw
        have hR := HR.out.below hb HR.out.lt
        obtain ⟨_, _, _, _⟩ := hR.four
        have hl := Hl.out.trans (hb.mono Hl.out.size)
        have HR := Lib.hid hR; have Hl := Lib.hid hl
        clear hb hR hl
        go_wp2_with fail
        refine (HA.out _ Hl.out).mono ?_
        rintro e w2 ⟨rfl, hb⟩
        have hR := HR.out.below hb HR.out.lt
        obtain ⟨_, _, _, _⟩ := hR.four
        have hl := Hl.out.trans (hb.mono Hl.out.size)
        have HR := Lib.hid hR; have Hl := Lib.hid hl
        clear hb hR hl
        go_wp2_with fail
        refine (HB.out _ Hl.out).mono ?_
        rintro e w3 ⟨rfl, hb⟩
        have hR := HR.out.below hb HR.out.lt
        obtain ⟨_, _, _, _⟩ := hR.four
        have hl := Hl.out.trans (hb.mono Hl.out.size)
        have HR := Lib.hid hR; have Hl := Lib.hid hl
        clear hb hR hl
        go_wp2_with fail
        refine (HI.out _ (Hl.out.alloc Hl.out.size _)).mono ?_
        rintro e w4 ⟨rfl, hb⟩
        have hR := (HR.out.alloc (.cells #[.int .i64 p, .int .i64 q] 44)).below hb (HR.out.alloc (.cells #[.int .i64 p, .int .i64 q] 44)).lt
        have hX := (Blk.new w3 44 #[.int .i64 p, .int .i64 q]).below hb (Blk.new w3 44 #[.int .i64 p, .int .i64 q]).lt
        obtain ⟨_, _, _, _⟩ := hR.four
        obtain ⟨_, _, _, _⟩ := hX.four
        have hl := (Hl.out.alloc Hl.out.size (.cells #[.int .i64 p, .int .i64 q] 44)).trans (hb.mono (Hl.out.alloc Hl.out.size (.cells #[.int .i64 p, .int .i64 q] 44)).size)
        have HR := Lib.hid hR; have Hl := Lib.hid hl
        clear hb hR hl hX
        go_wp2
        exact bodyPost_ret (results_cell_slot rfl _ _ w.heap.size 44 #[.int .i64 p, .int .i64 q] (0, 0) _ rfl HR.out.put2 Tryz.underlying44 rfl (by kernel_rfl)) rfl ⟨rfl, below_put2 Hl.out (Nat.le_refl _) _ _⟩
set_option maxRecDepth 10000 in
set_option maxHeartbeats 2000000 in
theorem spec_ParseSlope (s : ByteArray) (w : World) (hs : s.size ≤ 1048576) :
    Calls Tryz.prog 45 #[.string s] w fun e w' => GivesSl w (Sl.parsed s) (decide (Sl.ParseOk s)) e w' := by
  rw [Sl.ok_dec]
  unfold Sl.parsed
  have hR := Blk.new w 44 #[.int .i64 0, .int .i64 0]
  have hl := (Below.refl w.heap.size w).alloc (Nat.le_refl _) (.cells #[.int .i64 0, .int .i64 0] 44)
  have hc := fun W => spec_SplitByte s 47 W hs
  by_cases h2 : (Split.pieces 47 s).length = 2
  · obtain ⟨A, B, hAB⟩ : ∃ A B, Split.pieces 47 s = [A, B] := by
      match h : Split.pieces 47 s, h2 with
      | [a, b], _ => exact ⟨a, b, rfl⟩
    rw [Sl.parse_pieces hAB]
    have sA : A.size ≤ 1048576 := Nat.le_trans (Split.pieces_small 47 s A (by rw [hAB]; simp)) hs
    have sB : B.size ≤ 1048576 := Nat.le_trans (Split.pieces_small 47 s B (by rw [hAB]; simp)) hs
    rw [hAB] at hc
    have hPA := fun W => spec_ParseInt A W sA
    have hPB := fun W => spec_ParseInt B W sB
    have hI := fun p q W => spec_IsSlope p q W
    unfold Sl.both
    generalize Num.rd 12 A.data.toList = ra at *
    generalize Num.rd 12 B.data.toList = rb at *
    obtain ⟨p, b1⟩ := ra
    obtain ⟨q, b2⟩ := rb
    dsimp only at hPA hPB ⊢
    have hIpq := hI p q
    generalize hv : decide (Sl.Is p q) = v at hIpq ⊢
    have HC := Lib.hid hc; have HA := Lib.hid hPA; have HB := Lib.hid hPB; have HI := Lib.hid hIpq; have HR := Lib.hid hR; have Hl := Lib.hid hl
    clear hR hl hc sA sB hPA hPB hI hIpq hv hs hAB h2
    cases b1 with
    | false =>
      rw [show (if (false && b2 && v) = true then ((p, q), true) else ((0, 0), false)) = (((0 : Int), (0 : Int)), false) from if_neg (by simp)]
      go_enter Tryz.func45, Tryz.ntmps45
      go_wp2_with fail
      refine (HC.out _).mono ?_
      rintro e w1 ⟨⟨pv, rfl, hpo⟩, hb⟩
      obtain ⟨av, cv, rfl, hrow⟩ := own_row hpo (by rfl)
      obtain ⟨g0, o0, rfl, hg0, hc0⟩ := strCells_at hrow (i := 0) (by simp)
      obtain ⟨g1, o1, hgo, _, hc1⟩ := strCells_at hrow (i := 1) (by simp)
      cases hgo
      have d0 : w1.cell? ⟨g0, o0, none⟩ = some (.string A) := hc0
      have d1 : w1.cell? ⟨g0, o0 + 1, none⟩ = some (.string B) := hc1
      have hr := Lib.hid hrow
      clear hc0 hc1 hrow hpo
      have hR := HR.out.below hb HR.out.lt
      obtain ⟨_, _, _, _⟩ := hR.four
      have hl := Hl.out.trans (hb.mono Hl.out.size)
      have HR := Lib.hid hR; have Hl := Lib.hid hl
      clear hb hR hl
      go_wp2_with fail
      refine (HA.out _).mono ?_
      rintro e w2 ⟨rfl, hb⟩
      have hr := Lib.hid (hr.out.below hb)
      obtain ⟨g2, o2, hg2, _, hc0⟩ := strCells_at hr.out (i := 0) (by simp)
      obtain ⟨g3, o3, hg3, _, hc1⟩ := strCells_at hr.out (i := 1) (by simp)
      cases hg2; cases hg3
      have d0 : w2.cell? ⟨g0, o0, none⟩ = some (.string A) := hc0
      have d1 : w2.cell? ⟨g0, o0 + 1, none⟩ = some (.string B) := hc1
      clear hc0 hc1
      have hR := HR.out.below hb HR.out.lt
      obtain ⟨_, _, _, _⟩ := hR.four
      have hl := Hl.out.trans (hb.mono Hl.out.size)
      have HR := Lib.hid hR; have Hl := Lib.hid hl
      clear hb hR hl
      go_wp2_with fail
      refine (HB.out _).mono ?_
      rintro e w3 ⟨rfl, hb⟩
      have hr := Lib.hid (hr.out.below hb)
      obtain ⟨g2, o2, hg2, _, hc0⟩ := strCells_at hr.out (i := 0) (by simp)
      obtain ⟨g3, o3, hg3, _, hc1⟩ := strCells_at hr.out (i := 1) (by simp)
      cases hg2; cases hg3
      have d0 : w3.cell? ⟨g0, o0, none⟩ = some (.string A) := hc0
      have d1 : w3.cell? ⟨g0, o0 + 1, none⟩ = some (.string B) := hc1
      clear hc0 hc1
      have hR := HR.out.below hb HR.out.lt
      obtain ⟨_, _, _, _⟩ := hR.four
      have hl := Hl.out.trans (hb.mono Hl.out.size)
      have HR := Lib.hid hR; have Hl := Lib.hid hl
      clear hb hR hl
      obtain ⟨_, _, _, _⟩ := (HR.out.alloc (.cells #[.int .i64 p, .int .i64 q] 44)).four
      go_wp2
      exact bodyPost_ret (results_cell_slot rfl _ _ w.heap.size 44 #[.int .i64 0, .int .i64 0] (0, 0) _ rfl (HR.out.alloc _).put2 Tryz.underlying44 rfl (by kernel_rfl)) rfl ⟨rfl, below_put2 (Hl.out.alloc Hl.out.size _) (Nat.le_refl _) _ _⟩
    | true =>
      cases b2 with
      | false =>
        rw [show (if (true && false && v) = true then ((p, q), true) else ((0, 0), false)) = (((0 : Int), (0 : Int)), false) from if_neg (by simp)]
        go_enter Tryz.func45, Tryz.ntmps45
        go_wp2_with fail
        refine (HC.out _).mono ?_
        rintro e w1 ⟨⟨pv, rfl, hpo⟩, hb⟩
        obtain ⟨av, cv, rfl, hrow⟩ := own_row hpo (by rfl)
        obtain ⟨g0, o0, rfl, hg0, hc0⟩ := strCells_at hrow (i := 0) (by simp)
        obtain ⟨g1, o1, hgo, _, hc1⟩ := strCells_at hrow (i := 1) (by simp)
        cases hgo
        have d0 : w1.cell? ⟨g0, o0, none⟩ = some (.string A) := hc0
        have d1 : w1.cell? ⟨g0, o0 + 1, none⟩ = some (.string B) := hc1
        have hr := Lib.hid hrow
        clear hc0 hc1 hrow hpo
        have hR := HR.out.below hb HR.out.lt
        obtain ⟨_, _, _, _⟩ := hR.four
        have hl := Hl.out.trans (hb.mono Hl.out.size)
        have HR := Lib.hid hR; have Hl := Lib.hid hl
        clear hb hR hl
        go_wp2_with fail
        refine (HA.out _).mono ?_
        rintro e w2 ⟨rfl, hb⟩
        have hr := Lib.hid (hr.out.below hb)
        obtain ⟨g2, o2, hg2, _, hc0⟩ := strCells_at hr.out (i := 0) (by simp)
        obtain ⟨g3, o3, hg3, _, hc1⟩ := strCells_at hr.out (i := 1) (by simp)
        cases hg2; cases hg3
        have d0 : w2.cell? ⟨g0, o0, none⟩ = some (.string A) := hc0
        have d1 : w2.cell? ⟨g0, o0 + 1, none⟩ = some (.string B) := hc1
        clear hc0 hc1
        have hR := HR.out.below hb HR.out.lt
        obtain ⟨_, _, _, _⟩ := hR.four
        have hl := Hl.out.trans (hb.mono Hl.out.size)
        have HR := Lib.hid hR; have Hl := Lib.hid hl
        clear hb hR hl
        go_wp2_with fail
        refine (HB.out _).mono ?_
        rintro e w3 ⟨rfl, hb⟩
        have hr := Lib.hid (hr.out.below hb)
        obtain ⟨g2, o2, hg2, _, hc0⟩ := strCells_at hr.out (i := 0) (by simp)
        obtain ⟨g3, o3, hg3, _, hc1⟩ := strCells_at hr.out (i := 1) (by simp)
        cases hg2; cases hg3
        have d0 : w3.cell? ⟨g0, o0, none⟩ = some (.string A) := hc0
        have d1 : w3.cell? ⟨g0, o0 + 1, none⟩ = some (.string B) := hc1
        clear hc0 hc1
        have hR := HR.out.below hb HR.out.lt
        obtain ⟨_, _, _, _⟩ := hR.four
        have hl := Hl.out.trans (hb.mono Hl.out.size)
        have HR := Lib.hid hR; have Hl := Lib.hid hl
        clear hb hR hl
        obtain ⟨_, _, _, _⟩ := (HR.out.alloc (.cells #[.int .i64 p, .int .i64 q] 44)).four
        go_wp2
        exact bodyPost_ret (results_cell_slot rfl _ _ w.heap.size 44 #[.int .i64 0, .int .i64 0] (0, 0) _ rfl (HR.out.alloc _).put2 Tryz.underlying44 rfl (by kernel_rfl)) rfl ⟨rfl, below_put2 (Hl.out.alloc Hl.out.size _) (Nat.le_refl _) _ _⟩
      | true =>
        cases v with
        | false =>
          rw [show (if (true && true && false) = true then ((p, q), true) else ((0, 0), false)) = (((0 : Int), (0 : Int)), false) from if_neg (by simp)]
          go_enter Tryz.func45, Tryz.ntmps45
          go_wp2_with fail
          refine (HC.out _).mono ?_
          rintro e w1 ⟨⟨pv, rfl, hpo⟩, hb⟩
          obtain ⟨av, cv, rfl, hrow⟩ := own_row hpo (by rfl)
          obtain ⟨g0, o0, rfl, hg0, hc0⟩ := strCells_at hrow (i := 0) (by simp)
          obtain ⟨g1, o1, hgo, _, hc1⟩ := strCells_at hrow (i := 1) (by simp)
          cases hgo
          have d0 : w1.cell? ⟨g0, o0, none⟩ = some (.string A) := hc0
          have d1 : w1.cell? ⟨g0, o0 + 1, none⟩ = some (.string B) := hc1
          have hr := Lib.hid hrow
          clear hc0 hc1 hrow hpo
          have hR := HR.out.below hb HR.out.lt
          obtain ⟨_, _, _, _⟩ := hR.four
          have hl := Hl.out.trans (hb.mono Hl.out.size)
          have HR := Lib.hid hR; have Hl := Lib.hid hl
          clear hb hR hl
          go_wp2_with fail
          refine (HA.out _).mono ?_
          rintro e w2 ⟨rfl, hb⟩
          have hr := Lib.hid (hr.out.below hb)
          obtain ⟨g2, o2, hg2, _, hc0⟩ := strCells_at hr.out (i := 0) (by simp)
          obtain ⟨g3, o3, hg3, _, hc1⟩ := strCells_at hr.out (i := 1) (by simp)
          cases hg2; cases hg3
          have d0 : w2.cell? ⟨g0, o0, none⟩ = some (.string A) := hc0
          have d1 : w2.cell? ⟨g0, o0 + 1, none⟩ = some (.string B) := hc1
          clear hc0 hc1
          have hR := HR.out.below hb HR.out.lt
          obtain ⟨_, _, _, _⟩ := hR.four
          have hl := Hl.out.trans (hb.mono Hl.out.size)
          have HR := Lib.hid hR; have Hl := Lib.hid hl
          clear hb hR hl
          go_wp2_with fail
          refine (HB.out _).mono ?_
          rintro e w3 ⟨rfl, hb⟩
          have hr := Lib.hid (hr.out.below hb)
          obtain ⟨g2, o2, hg2, _, hc0⟩ := strCells_at hr.out (i := 0) (by simp)
          obtain ⟨g3, o3, hg3, _, hc1⟩ := strCells_at hr.out (i := 1) (by simp)
          cases hg2; cases hg3
          have d0 : w3.cell? ⟨g0, o0, none⟩ = some (.string A) := hc0
          have d1 : w3.cell? ⟨g0, o0 + 1, none⟩ = some (.string B) := hc1
          clear hc0 hc1
          have hR := HR.out.below hb HR.out.lt
          obtain ⟨_, _, _, _⟩ := hR.four
          have hl := Hl.out.trans (hb.mono Hl.out.size)
          have HR := Lib.hid hR; have Hl := Lib.hid hl
          clear hb hR hl
          go_wp2_with fail
          refine (HI.out _).mono ?_
          rintro e w4 ⟨rfl, hb⟩
          have hR := (HR.out.alloc (.cells #[.int .i64 p, .int .i64 q] 44)).below hb (HR.out.alloc (.cells #[.int .i64 p, .int .i64 q] 44)).lt
          obtain ⟨_, _, _, _⟩ := hR.four
          have hl := (Hl.out.alloc Hl.out.size (.cells #[.int .i64 p, .int .i64 q] 44)).trans (hb.mono (Hl.out.alloc Hl.out.size (.cells #[.int .i64 p, .int .i64 q] 44)).size)
          have HR := Lib.hid hR; have Hl := Lib.hid hl
          clear hb hR hl
          go_wp2
          exact bodyPost_ret (results_cell_slot rfl _ _ w.heap.size 44 #[.int .i64 0, .int .i64 0] (0, 0) _ rfl HR.out.put2 Tryz.underlying44 rfl (by kernel_rfl)) rfl ⟨rfl, below_put2 Hl.out (Nat.le_refl _) _ _⟩
        | true =>
          rw [show (if (true && true && true) = true then ((p, q), true) else ((0, 0), false)) = ((p, q), true) from if_pos (by simp)]
          go_enter Tryz.func45, Tryz.ntmps45
          go_wp2_with fail
          refine (HC.out _).mono ?_
          rintro e w1 ⟨⟨pv, rfl, hpo⟩, hb⟩
          obtain ⟨av, cv, rfl, hrow⟩ := own_row hpo (by rfl)
          obtain ⟨g0, o0, rfl, hg0, hc0⟩ := strCells_at hrow (i := 0) (by simp)
          obtain ⟨g1, o1, hgo, _, hc1⟩ := strCells_at hrow (i := 1) (by simp)
          cases hgo
          have d0 : w1.cell? ⟨g0, o0, none⟩ = some (.string A) := hc0
          have d1 : w1.cell? ⟨g0, o0 + 1, none⟩ = some (.string B) := hc1
          have hr := Lib.hid hrow
          clear hc0 hc1 hrow hpo
          have hR := HR.out.below hb HR.out.lt
          obtain ⟨_, _, _, _⟩ := hR.four
          have hl := Hl.out.trans (hb.mono Hl.out.size)
          have HR := Lib.hid hR; have Hl := Lib.hid hl
          clear hb hR hl
          go_wp2_with fail
          refine (HA.out _).mono ?_
          rintro e w2 ⟨rfl, hb⟩
          have hr := Lib.hid (hr.out.below hb)
          obtain ⟨g2, o2, hg2, _, hc0⟩ := strCells_at hr.out (i := 0) (by simp)
          obtain ⟨g3, o3, hg3, _, hc1⟩ := strCells_at hr.out (i := 1) (by simp)
          cases hg2; cases hg3
          have d0 : w2.cell? ⟨g0, o0, none⟩ = some (.string A) := hc0
          have d1 : w2.cell? ⟨g0, o0 + 1, none⟩ = some (.string B) := hc1
          clear hc0 hc1
          have hR := HR.out.below hb HR.out.lt
          obtain ⟨_, _, _, _⟩ := hR.four
          have hl := Hl.out.trans (hb.mono Hl.out.size)
          have HR := Lib.hid hR; have Hl := Lib.hid hl
          clear hb hR hl
          go_wp2_with fail
          refine (HB.out _).mono ?_
          rintro e w3 ⟨rfl, hb⟩
          have hr := Lib.hid (hr.out.below hb)
          obtain ⟨g2, o2, hg2, _, hc0⟩ := strCells_at hr.out (i := 0) (by simp)
          obtain ⟨g3, o3, hg3, _, hc1⟩ := strCells_at hr.out (i := 1) (by simp)
          cases hg2; cases hg3
          have d0 : w3.cell? ⟨g0, o0, none⟩ = some (.string A) := hc0
          have d1 : w3.cell? ⟨g0, o0 + 1, none⟩ = some (.string B) := hc1
          clear hc0 hc1
          have hR := HR.out.below hb HR.out.lt
          obtain ⟨_, _, _, _⟩ := hR.four
          have hl := Hl.out.trans (hb.mono Hl.out.size)
          have HR := Lib.hid hR; have Hl := Lib.hid hl
          clear hb hR hl
          go_wp2_with fail
          refine (HI.out _).mono ?_
          rintro e w4 ⟨rfl, hb⟩
          have hR := (HR.out.alloc (.cells #[.int .i64 p, .int .i64 q] 44)).below hb (HR.out.alloc (.cells #[.int .i64 p, .int .i64 q] 44)).lt
          have hX := (Blk.new w3 44 #[.int .i64 p, .int .i64 q]).below hb (Blk.new w3 44 #[.int .i64 p, .int .i64 q]).lt
          obtain ⟨_, _, _, _⟩ := hR.four
          obtain ⟨_, _, _, _⟩ := hX.four
          have hl := (Hl.out.alloc Hl.out.size (.cells #[.int .i64 p, .int .i64 q] 44)).trans (hb.mono (Hl.out.alloc Hl.out.size (.cells #[.int .i64 p, .int .i64 q] 44)).size)
          have HR := Lib.hid hR; have Hl := Lib.hid hl
          clear hb hR hl hX
          go_wp2
          exact bodyPost_ret (results_cell_slot rfl _ _ w.heap.size 44 #[.int .i64 p, .int .i64 q] (0, 0) _ rfl HR.out.put2 Tryz.underlying44 rfl (by kernel_rfl)) rfl ⟨rfl, below_put2 Hl.out (Nat.le_refl _) _ _⟩
  · rw [Sl.parse_other h2]
    have hne : ((((Split.pieces 47 s).length : Nat) : Int) != 2) = true := by simp; omega
    generalize Split.pieces 47 s = ps at *
    have HC := Lib.hid hc; have HR := Lib.hid hR; have Hl := Lib.hid hl
    clear hR hl hc hs h2
    go_enter Tryz.func45, Tryz.ntmps45
    go_wp2_with fail
    refine (HC.out _).mono ?_
    rintro e w1 ⟨⟨pv, rfl, hpo⟩, hb⟩
    obtain ⟨av, cv, rfl⟩ := own_len hpo
    have hR := HR.out.below hb HR.out.lt
    obtain ⟨_, _, _, _⟩ := hR.four
    have hl := Hl.out.trans (hb.mono Hl.out.size)
    have HR := Lib.hid hR; have Hl := Lib.hid hl
    clear hb hR hl hpo
    go_wp2
    exact bodyPost_ret (results_cell_slot rfl _ _ w.heap.size 44 #[.int .i64 0, .int .i64 0] (0, 0) _ rfl HR.out.put2 Tryz.underlying44 rfl (by kernel_rfl)) rfl ⟨rfl, below_put2 Hl.out (Nat.le_refl _) _ _⟩
end Go.Proofs.YtehibigjdbpikaaGreatDoor
