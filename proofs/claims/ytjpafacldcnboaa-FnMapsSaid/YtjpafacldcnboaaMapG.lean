/-
  The walks of AddEdge, the program's and the model's.
-/
import Derived.Test.YtjpafacldcnboaaBase
import Derived.Test.YtjpafacldcnboaaSlice
import Derived.Test.YtjpafacldcnboaaInts
import Derived.Test.YtjpafacldcnboaaGrid
import Derived.Test.YtjpafacldcnboaaGridRows
import Derived.Test.YtjpafacldcnboaaOwn
import Derived.Test.YtjpafacldcnboaaAppend
import Derived.Test.YtjpafacldcnboaaClass
import Derived.Test.YtjpafacldcnboaaLab
import Derived.Test.YtjpafacldcnboaaMap
import Derived.Test.YtjpafacldcnboaaMapA
import Derived.Test.YtjpafacldcnboaaMapB
import Derived.Test.YtjpafacldcnboaaMapC
import Derived.StillTailTactics
import Derived.Deep.QuietTactic
import Derived.BigQuiet
namespace Go.Proofs.Ytjpafacldcnboaa
open Go.RowKit

theorem row_two (f : Nat → Nat) (n : Nat) : Cls.row f n ++ [((f n : Nat) : Int), ((f (n + 1) : Nat) : Int)] = Cls.row f (n + 2) := by
  rw [← row_snoc f (n + 1), ← row_snoc f n, List.append_assoc]; rfl
theorem intCells_two (l : List Int) (x y : Int) : intCells l ++ [.int .i64 x, .int .i64 y] = intCells (l ++ [x, y]) := by simp [intCells]
namespace Mp
/-- The darts of a map, and two more behind them. -/
def plus (f : Nat → Nat) (n x y : Nat) : Nat → Nat := fun k => if k < n then f k else if k = n then x else y
theorem plus_row (f : Nat → Nat) (n x y : Nat) : Cls.row f n ++ [((x : Nat) : Int), ((y : Nat) : Int)] = Cls.row (plus f n x y) (n + 2) := by
  rw [← row_two, row_congr (f := f) (f' := plus f n x y) fun k hk => by simp [plus, hk]]
  have h1 : ¬ n + 1 < n := by omega
  simp [plus, h1]
theorem addF_plus {l : List Int} {a b : Nat} (ha : a < l.length) (hb : b < l.length) (x y : Nat) : ∀ k, k < l.length + 2 → behind (behind (plus (at_ l) l.length x y) l.length a) (l.length + 1) (if a = b then l.length else b) k = addF l a b k := by
  intro k hk
  unfold addF behind upd plus
  by_cases hab : a = b
  · subst hab
    simp only [if_true]
    by_cases h1 : k = l.length
    · simp [h1]
    · by_cases h2 : k = l.length + 1
      · subst h2; simp [ha]
      · have : k < l.length := by omega
        simp [h1, h2, this, ha]
  · simp only [hab, if_false]
    by_cases h1 : k = l.length
    · subst h1
      have : ¬ l.length = b := by omega
      simp [this, ha]
    · by_cases h2 : k = l.length + 1
      · subst h2
        have h3 : ¬ l.length + 1 = b := by omega
        have h4 : ¬ b = a := fun h => hab h.symm
        have h5 : ¬ b = l.length := by omega
        simp [h3, h4, h5, hb]
      · have : k < l.length := by omega
        simp [h1, h2, this, ha]
end Mp

set_option maxRecDepth 10000 in
set_option maxHeartbeats 2000000 in
theorem impl_putBehind (p lo n : Nat) (f : Nat → Nat) (d b : Nat) (zd zb : Int) (hzd : zd = ((d : Nat) : Int)) (hzb : zb = ((b : Nat) : Int)) (w : World) (h : MapAt w lo p f n) (hlo : lo ≤ w.heap.size) (hd : d < n) (hb : b < n) (hn : n ≤ 1000) :
    Calls Try.prog 102 #[.pointer (some ⟨p, 0, none⟩), .int .i64 zd, .int .i64 zb] w fun e w' => e = .returned (.tuple #[]) ∧ MapAt w' lo p (Mp.behind f d b) n ∧ Below lo w w' := by
  subst hzd; subst hzb
  obtain ⟨g, cap, hcell, _, hcap, hcm, hpg, hlop, hp, hlog, hg, hblk, hrow⟩ := h.open
  have hrb := ownRow_cell hrow hb
  have hrd := ownRow_cell hrow hd
  have hfz := hrow.frozenAt d
  have m1 : MapAt (w.setCell ⟨g, d, none⟩ (.int .i64 ((f b : Nat) : Int))) lo p (Mp.upd f d (f b)) n := MapAt.put (w := w) hblk hrow hlop hcap hcm (f b) hd
  have b1 : Below lo w (w.setCell ⟨g, d, none⟩ (.int .i64 ((f b : Nat) : Int))) := (Below.refl lo w).setCell hlog _
  have hm := Lib.hid m1
  obtain ⟨g', cap', hcell1, _, hcap1, hcm1, hpg1, hlop1, hp1, hlog1, hg1, hblk1, hrow1⟩ := m1.open
  have heq : g' = g ∧ cap' = cap := by
    have e1 := hblk1
    have e2 : Blk (w.setCell ⟨g, d, none⟩ (.int .i64 ((f b : Nat) : Int))) p 67 #[.slice (some ⟨g, 0, none⟩) n cap] := hblk.far hpg _
    unfold Blk at e1 e2
    rw [e1] at e2
    injection e2 with e2; injection e2 with e2 _ _
    simpa using e2
  obtain ⟨rfl, rfl⟩ := heq
  have hrb1 := ownRow_cell hrow1 hb
  have hfz1 := hrow1.frozenAt b
  have m2 := MapAt.put hblk1 hrow1 hlop1 hcap1 hcm1 d hb
  have b2 := b1.setCell (p := ⟨g', b, none⟩) hlog (.int .i64 ((d : Nat) : Int))
  have h0d : (0 : Int) ≤ (d : Int) := by omega
  have h1d : (d : Int) < (n : Int) := by omega
  have h0b : (0 : Int) ≤ (b : Int) := by omega
  have h1b : (b : Int) < (n : Int) := by omega
  have M2 := Lib.hid m2; have B2 := Lib.hid b2
  clear m2 b2 m1 b1 hm hblk1 hrow1 hblk hrow h
  generalize Mp.upd f d (f b) b = z1 at hrb1
  have hM : Mp.upd (Mp.upd f d (f b)) b d = Mp.behind f d b := rfl
  rw [hM] at M2
  clear hM
  generalize Mp.behind f d b = ff at *
  generalize f b = fb at *
  generalize f d = fd at *
  go_enter Try.func102, Try.ntmps102
  go_wp2
  go_still_tail 13, (by kernel_rfl)
  change wpList _ _ _ _ _ w.drew
  go_wp2
  exact bodyPost_end (v := .tuple #[]) (by first | kernel_rfl | simp [results, Try.f102]) rfl ⟨rfl, M2.out, below_drewN B2.out 1⟩

set_option maxRecDepth 10000 in
set_option maxHeartbeats 2000000 in
theorem impl_addMates (p lo n : Nat) (f : Nat → Nat) (w : World) (h : MapAt w lo p f n) (hlo : lo ≤ w.heap.size) (hn : n ≤ 1000) :
    Calls Try.prog 101 #[.pointer (some ⟨p, 0, none⟩)] w fun e w' => e = .returned (.int .i64 (n : Int)) ∧ MapAt w' lo p (Mp.plus f n n (n + 1)) (n + 2) ∧ Below lo w w' := by
  obtain ⟨i0, hi0, hz0, hz1, hz2⟩ := info_int_parts
  obtain ⟨g, cap, hcell, hfz, hcap, hcm, hpg, hlop, hp, hlog, hg, hblk, hrow⟩ := h.open
  have hw : IntKind.i64.wrap ((n : Int) + 1) = (n : Int) + 1 := wrap_small (by omega) (by omega)
  have hm1 : n + 2 ≤ maxLen := by unfold maxLen; omega
  have hm2 : (n + 2) * 8 ≤ 140737488355328 := by omega
  have hnx : ∀ v1 w1, w1.ownsRow lo 3 1 v1 (n + 2) (intCells (Cls.row f n) ++ [.int .i64 (n : Int), .int .i64 ((n : Int) + 1)]) → (w.alloc (.cells #[.int .i64 (n : Int), .int .i64 ((n : Int) + 1)] 3)).grownBy w1 (Value.slice (some ⟨g, 0, none⟩) n cap).ownBlock →
      MapAt (w1.setCell ⟨p, 0, none⟩ v1) lo p (Mp.plus f n n (n + 1)) (n + 2) ∧ Below lo w (w1.setCell ⟨p, 0, none⟩ v1) ∧ w1.cell? ⟨p, 0, none⟩ = some (.slice (some ⟨g, 0, none⟩) n cap) ∧ w1.frozen? ⟨p, 0, none⟩ = false ∧ ∃ a c, v1 = .slice a (n + 2) c := fun v1 w1 ho hgr => by
    have hp1 : Blk w1 p 67 #[.slice (some ⟨g, 0, none⟩) n cap] := (hblk.alloc _).grown hgr (fun e => by have := own_block e.symm; exact hpg this)
    obtain ⟨g1, c1, rfl, h1, h2⟩ := own_form ho (by omega)
    rw [intCells_two, show ((n : Int) + 1) = ((n + 1 : Nat) : Int) from by omega, Mp.plus_row] at ho
    have hpg1 := MapAt.apart hp1 ho
    refine ⟨⟨g1, c1, ?_, own_grown ho (g := p) (only_setCell (World.grownBy.refl _ _) (Or.inl rfl) _) (fun k hk => by rw [own_block hk]; exact fun e => hpg1 e.symm), hlop, h1, h2⟩, ?_, hp1.cell 0, hp1.frozen 0, _, _, rfl⟩
    · exact hp1.put 0 _
    · exact (((Below.refl lo w).alloc hlo _).grown hgr (by simp; omega) (fun k hk => by rw [own_block hk]; exact hlog)).setCell hlop _
  have Hi0 := Lib.hid hi0; have Hz0 := Lib.hid hz0; have Hz1 := Lib.hid hz1; have Hz2 := Lib.hid hz2; have Hrow := Lib.hid hrow; have Hnx := Lib.hid hnx
  clear hi0 hz0 hz1 hz2 hrow hnx h hblk
  go_enter Try.func101, Try.ntmps101
  go_wp2_with (at_builtin; refine append_two rfl (.tmp 13) (.tmp 17) 22 rfl lo 3 i0 _ 8 Try.underlying22 Hi0.out Hz0.out Hz1.out Hz2.out (by rfl) _ _ _ rfl Hrow.out (by rfl) (by rfl) _ rfl hm1 hm2 hlo ?_; intro v1 w1 hown1 hg1; obtain ⟨hM, hB, hc1, hf1, a1, c1, rfl⟩ := Hnx.out v1 w1 hown1 hg1)
  go_ret
  exact ⟨by first | rfl | simp, hM, hB⟩

set_option maxRecDepth 10000 in
set_option maxHeartbeats 2000000 in
theorem impl_AddEdge (a : Option Addr) (c : Nat) (l : List Int) (va vb : Int) (w : World) (ha : RowAt w a (intCells l)) (hl : l.length ≤ 1048576) (_ : -9223372036854775808 ≤ va) (_ : va ≤ 9223372036854775807) (_ : -9223372036854775808 ≤ vb) (_ : vb ≤ 9223372036854775807) :
    Calls Try.prog 39 #[.slice a l.length c, .int .i64 va, .int .i64 vb] w fun e w' => Gives2 w (Mp.add l va vb) (decide (Mp.AddOk l va vb)) e w' := by
  by_cases hM : Mp.IsM l
  · have hmap := impl_mapOf_yes a c l w ha hM
    have hn := hM.2.1
    have hA := fun p lo W (h : MapAt W lo p (Mp.at_ l) l.length) => impl_hasDart p lo l.length (Mp.at_ l) va W h
    have hB := fun p lo W (h : MapAt W lo p (Mp.at_ l) l.length) => impl_hasDart p lo l.length (Mp.at_ l) vb W h
    have hR := fun p lo W (h : MapAt W lo p (Mp.at_ l) l.length) => impl_hasRoom p lo l.length (Mp.at_ l) W h (by omega)
    by_cases h1 : Mp.Dart l va
    · rw [decide_eq_true (show 0 ≤ va ∧ va < (l.length : Int) from h1)] at hA
      by_cases h2 : Mp.Dart l vb
      · rw [decide_eq_true (show 0 ≤ vb ∧ vb < (l.length : Int) from h2)] at hB
        by_cases h3 : Mp.Room l
        · rw [decide_eq_true (show l.length + 2 ≤ 24 from h3)] at hR
          have hok : Mp.AddOk l va vb := ⟨hM, h1, h2, h3⟩
          rw [decide_eq_true hok]
          have hv : Mp.add l va vb = Cls.row (Mp.addF l va.toNat vb.toNat) (l.length + 2) := if_pos hok
          rw [hv]
          obtain ⟨x, rfl⟩ : ∃ x : Nat, va = ((x : Nat) : Int) := ⟨va.toNat, by have := h1.1; omega⟩
          obtain ⟨y, rfl⟩ : ∃ y : Nat, vb = ((y : Nat) : Int) := ⟨vb.toNat, by have := h2.1; omega⟩
          have hx : x < l.length := by have := h1.2; omega
          have hy : y < l.length := by have := h2.2; omega
          simp only [Int.toNat_natCast]
          have hadd := fun p lo W (h : MapAt W lo p (Mp.at_ l) l.length) (hlo : lo ≤ W.heap.size) => impl_addMates p lo l.length (Mp.at_ l) W h hlo (by omega)
          have hp1 := fun p lo W (h : MapAt W lo p (Mp.plus (Mp.at_ l) l.length l.length (l.length + 1)) (l.length + 2)) (hlo : lo ≤ W.heap.size) => impl_putBehind p lo (l.length + 2) _ l.length x (l.length : Int) (x : Int) rfl rfl W h hlo (by omega) (by omega) (by omega)
          have hp2 := fun p lo W (h : MapAt W lo p (Mp.behind (Mp.plus (Mp.at_ l) l.length l.length (l.length + 1)) l.length x) (l.length + 2)) (hlo : lo ≤ W.heap.size) => impl_putBehind p lo (l.length + 2) _ (l.length + 1) (if x = y then l.length else y) ((l.length : Int) + 1) (((if x = y then l.length else y) : Nat) : Int) (by omega) rfl W h hlo (by omega) (by split <;> omega) (by omega)
          have hfin := fun W lo p (h : MapAt W lo p (Mp.behind (Mp.behind (Mp.plus (Mp.at_ l) l.length l.length (l.length + 1)) l.length x) (l.length + 1) (if x = y then l.length else y)) (l.length + 2)) => h.congr (Mp.addF_plus hx hy l.length (l.length + 1))
          generalize Mp.addF l x y = ff at *
          generalize Mp.behind (Mp.behind (Mp.plus (Mp.at_ l) l.length l.length (l.length + 1)) l.length x) (l.length + 1) (if x = y then l.length else y) = f3 at *
          generalize Mp.behind (Mp.plus (Mp.at_ l) l.length l.length (l.length + 1)) l.length x = f2 at *
          generalize Mp.plus (Mp.at_ l) l.length l.length (l.length + 1) = f1 at *
          have hw1 : IntKind.i64.wrap ((l.length : Int) + 1) = (l.length : Int) + 1 := wrap_small (by omega) (by omega)
          have Hmap := Lib.hid hmap; have HA := Lib.hid hA; have HB := Lib.hid hB; have HR := Lib.hid hR; have Hadd := Lib.hid hadd; have Hp1 := Lib.hid hp1; have Hfin := Lib.hid hfin
          clear hmap hA hB hR hadd hp1 hfin hM h1 h2 h3 hok hv ha
          by_cases hxy : x = y
          · rw [if_pos hxy] at hp2
            have Hp2 := Lib.hid hp2; clear hp2
            have hq : ((x : Int) == (y : Int)) = true := by rw [hxy]; simp
            clear hxy
            go_enter Try.func39, Try.ntmps39
            go_wp2_with fail
            refine Hmap.out.mono ?_
            rintro e w1 ⟨⟨p, rfl, hm⟩, hb⟩
            have Hb := Lib.hid hb; have Hm := Lib.hid hm
            clear hb hm
            go_wp2_with fail
            refine (HA.out _ _ _ Hm.out).mono ?_
            rintro e w2 ⟨rfl, hw⟩
            rw [hw]; clear hw
            go_wp2_with fail
            refine (HB.out _ _ _ Hm.out).mono ?_
            rintro e w2 ⟨rfl, hw⟩
            rw [hw]; clear hw
            go_wp2_with fail
            refine (HR.out _ _ _ Hm.out).mono ?_
            rintro e w2 ⟨rfl, hw⟩
            rw [hw]; clear hw
            go_wp2_with fail
            refine (Hadd.out _ _ _ Hm.out Hb.out.size).mono ?_
            rintro e w2 ⟨rfl, hm2, hb2⟩
            have Hm2 := Lib.hid hm2; have Hb2 := Lib.hid (Hb.out.trans hb2)
            clear hm2 hb2
            go_wp2_with fail
            refine (Hp1.out _ _ _ Hm2.out Hb2.out.size).mono ?_
            rintro e w3 ⟨rfl, hm3, hb3⟩
            have Hm3 := Lib.hid hm3; have Hb3 := Lib.hid (Hb2.out.trans hb3)
            clear hm3 hb3
            go_wp2_with fail
            refine (Hp2.out _ _ _ Hm3.out Hb3.out.size).mono ?_
            rintro e w4 ⟨rfl, hm4, hb4⟩
            have Hb4 := Lib.hid (Hb3.out.trans hb4)
            have hm5 := Hfin.out _ _ _ hm4
            obtain ⟨g, cap, hcell, _, hcap, hcm, _, _, _, _, _, _, hrow⟩ := hm5.open
            have Hrow := Lib.hid hrow
            clear hm4 hb4 hm5 hrow
            go_wp2
            go_ret2
            exact (own_gives Hrow.out (Cls.row_len _ _) Hb4.out).with
          · rw [if_neg hxy] at hp2
            have Hp2 := Lib.hid hp2; clear hp2
            have hq : ((x : Int) == (y : Int)) = false := beq_eq_false_iff_ne.2 (by omega)
            clear hxy
            go_enter Try.func39, Try.ntmps39
            go_wp2_with fail
            refine Hmap.out.mono ?_
            rintro e w1 ⟨⟨p, rfl, hm⟩, hb⟩
            have Hb := Lib.hid hb; have Hm := Lib.hid hm
            clear hb hm
            go_wp2_with fail
            refine (HA.out _ _ _ Hm.out).mono ?_
            rintro e w2 ⟨rfl, hw⟩
            rw [hw]; clear hw
            go_wp2_with fail
            refine (HB.out _ _ _ Hm.out).mono ?_
            rintro e w2 ⟨rfl, hw⟩
            rw [hw]; clear hw
            go_wp2_with fail
            refine (HR.out _ _ _ Hm.out).mono ?_
            rintro e w2 ⟨rfl, hw⟩
            rw [hw]; clear hw
            go_wp2_with fail
            refine (Hadd.out _ _ _ Hm.out Hb.out.size).mono ?_
            rintro e w2 ⟨rfl, hm2, hb2⟩
            have Hm2 := Lib.hid hm2; have Hb2 := Lib.hid (Hb.out.trans hb2)
            clear hm2 hb2
            go_wp2_with fail
            refine (Hp1.out _ _ _ Hm2.out Hb2.out.size).mono ?_
            rintro e w3 ⟨rfl, hm3, hb3⟩
            have Hm3 := Lib.hid hm3; have Hb3 := Lib.hid (Hb2.out.trans hb3)
            clear hm3 hb3
            go_wp2_with fail
            refine (Hp2.out _ _ _ Hm3.out Hb3.out.size).mono ?_
            rintro e w4 ⟨rfl, hm4, hb4⟩
            have Hb4 := Lib.hid (Hb3.out.trans hb4)
            have hm5 := Hfin.out _ _ _ hm4
            obtain ⟨g, cap, hcell, _, hcap, hcm, _, _, _, _, _, _, hrow⟩ := hm5.open
            have Hrow := Lib.hid hrow
            clear hm4 hb4 hm5 hrow
            go_wp2
            go_ret2
            exact (own_gives Hrow.out (Cls.row_len _ _) Hb4.out).with
        · rw [decide_eq_false (show ¬ l.length + 2 ≤ 24 from h3)] at hR
          have hok : ¬ Mp.AddOk l va vb := fun h => h3 h.2.2.2
          rw [decide_eq_false hok, show Mp.add l va vb = [] from if_neg hok]
          have Hmap := Lib.hid hmap; have HA := Lib.hid hA; have HB := Lib.hid hB; have HR := Lib.hid hR
          clear hmap hA hB hR ha hok hM
          go_enter Try.func39, Try.ntmps39
          go_wp2_with fail
          refine Hmap.out.mono ?_
          rintro e w1 ⟨⟨p, rfl, hm⟩, hb⟩
          have Hb := Lib.hid hb; have Hm := Lib.hid hm
          clear hb hm
          go_wp2_with fail
          refine (HA.out _ _ _ Hm.out).mono ?_
          rintro e w2 ⟨rfl, hw⟩
          rw [hw]; clear hw
          go_wp2_with fail
          refine (HB.out _ _ _ Hm.out).mono ?_
          rintro e w2 ⟨rfl, hw⟩
          rw [hw]; clear hw
          go_wp2_with fail
          refine (HR.out _ _ _ Hm.out).mono ?_
          rintro e w2 ⟨rfl, hw⟩
          rw [hw]; clear hw
          go_wp2
          go_ret2
          exact Gives2.none Hb.out
      · rw [decide_eq_false (show ¬ (0 ≤ vb ∧ vb < (l.length : Int)) from h2)] at hB
        have hok : ¬ Mp.AddOk l va vb := fun h => h2 h.2.2.1
        rw [decide_eq_false hok, show Mp.add l va vb = [] from if_neg hok]
        have Hmap := Lib.hid hmap; have HA := Lib.hid hA; have HB := Lib.hid hB
        clear hmap hA hB hR ha hok hM
        go_enter Try.func39, Try.ntmps39
        go_wp2_with fail
        refine Hmap.out.mono ?_
        rintro e w1 ⟨⟨p, rfl, hm⟩, hb⟩
        have Hb := Lib.hid hb; have Hm := Lib.hid hm
        clear hb hm
        go_wp2_with fail
        refine (HA.out _ _ _ Hm.out).mono ?_
        rintro e w2 ⟨rfl, hw⟩
        rw [hw]; clear hw
        go_wp2_with fail
        refine (HB.out _ _ _ Hm.out).mono ?_
        rintro e w2 ⟨rfl, hw⟩
        rw [hw]; clear hw
        go_wp2
        go_ret2
        exact Gives2.none Hb.out
    · rw [decide_eq_false (show ¬ (0 ≤ va ∧ va < (l.length : Int)) from h1)] at hA
      have hok : ¬ Mp.AddOk l va vb := fun h => h1 h.2.1
      rw [decide_eq_false hok, show Mp.add l va vb = [] from if_neg hok]
      have Hmap := Lib.hid hmap; have HA := Lib.hid hA
      clear hmap hA hB hR ha hok hM
      go_enter Try.func39, Try.ntmps39
      go_wp2_with fail
      refine Hmap.out.mono ?_
      rintro e w1 ⟨⟨p, rfl, hm⟩, hb⟩
      have Hb := Lib.hid hb; have Hm := Lib.hid hm
      clear hb hm
      go_wp2_with fail
      refine (HA.out _ _ _ Hm.out).mono ?_
      rintro e w2 ⟨rfl, hw⟩
      rw [hw]; clear hw
      go_wp2
      go_ret2
      exact Gives2.none Hb.out
  · have hc := impl_mapOf_no a c l w ha hl hM
    have hok : ¬ Mp.AddOk l va vb := fun h => hM h.1
    rw [decide_eq_false hok, show Mp.add l va vb = [] from if_neg hok]
    have Hc := Lib.hid hc
    clear hc hM ha hok
    go_enter Try.func39, Try.ntmps39
    go_wp2_with fail
    refine Hc.out.mono ?_
    rintro e w1 ⟨rfl, hb⟩
    have Hb := Lib.hid hb; clear hb
    go_wp2
    go_ret2
    exact Gives2.none Hb.out

theorem own_below {w w' : World} {lo B n : Nat} {e : TypeId} {v : Value} {xs : List Value} (h : w.ownsRow lo e 1 v n xs) (hb : Below B w w') (hB : w.heap.size ≤ B) : w'.ownsRow lo e 1 v n xs :=
  own_keep h hb fun k hk => Nat.lt_of_lt_of_le (h.lt k hk).2 hB
/-- Two darts are laid behind others. -/
theorem stores4 {w w0 : World} {lo g cap m n a b : Nat} {f : Nat → Nat} (h : w.ownsRow lo 3 1 (.slice (some ⟨g, 0, none⟩) m cap) m (intCells (Cls.row f m))) (hb0 : Below lo w0 w) (hn : n + 1 < m) (ha : a < m) (hb : b < m) :
    ∃ fa z1 z2 fb z3 z4 : Nat, w.cell? ⟨g, a, none⟩ = some (.int .i64 (fa : Int)) ∧ w.cell? ⟨g, n, none⟩ = some (.int .i64 (z1 : Int)) ∧ w.frozen? ⟨g, n, none⟩ = false ∧
      (w.setCell ⟨g, n, none⟩ (.int .i64 (fa : Int))).cell? ⟨g, a, none⟩ = some (.int .i64 (z2 : Int)) ∧ (w.setCell ⟨g, n, none⟩ (.int .i64 (fa : Int))).frozen? ⟨g, a, none⟩ = false ∧
      ((w.setCell ⟨g, n, none⟩ (.int .i64 (fa : Int))).setCell ⟨g, a, none⟩ (.int .i64 (n : Int))).cell? ⟨g, b, none⟩ = some (.int .i64 (fb : Int)) ∧
      ((w.setCell ⟨g, n, none⟩ (.int .i64 (fa : Int))).setCell ⟨g, a, none⟩ (.int .i64 (n : Int))).cell? ⟨g, n + 1, none⟩ = some (.int .i64 (z3 : Int)) ∧
      ((w.setCell ⟨g, n, none⟩ (.int .i64 (fa : Int))).setCell ⟨g, a, none⟩ (.int .i64 (n : Int))).frozen? ⟨g, n + 1, none⟩ = false ∧
      (((w.setCell ⟨g, n, none⟩ (.int .i64 (fa : Int))).setCell ⟨g, a, none⟩ (.int .i64 (n : Int))).setCell ⟨g, n + 1, none⟩ (.int .i64 (fb : Int))).cell? ⟨g, b, none⟩ = some (.int .i64 (z4 : Int)) ∧
      (((w.setCell ⟨g, n, none⟩ (.int .i64 (fa : Int))).setCell ⟨g, a, none⟩ (.int .i64 (n : Int))).setCell ⟨g, n + 1, none⟩ (.int .i64 (fb : Int))).frozen? ⟨g, b, none⟩ = false ∧
      ((((w.setCell ⟨g, n, none⟩ (.int .i64 (fa : Int))).setCell ⟨g, a, none⟩ (.int .i64 (n : Int))).setCell ⟨g, n + 1, none⟩ (.int .i64 (fb : Int))).setCell ⟨g, b, none⟩ (.int .i64 ((n : Int) + 1))).ownsRow lo 3 1 (.slice (some ⟨g, 0, none⟩) m cap) m (intCells (Cls.row (Mp.behind (Mp.behind f n a) (n + 1) b) m)) ∧
      Below lo w0 ((((w.setCell ⟨g, n, none⟩ (.int .i64 (fa : Int))).setCell ⟨g, a, none⟩ (.int .i64 (n : Int))).setCell ⟨g, n + 1, none⟩ (.int .i64 (fb : Int))).setCell ⟨g, b, none⟩ (.int .i64 ((n : Int) + 1))) := by
  have hg := (h.lt g rfl).1
  have h1 := ownRow_put h (f a) (show n < m by omega)
  have h2 := ownRow_put h1 n ha
  have h3 := ownRow_put h2 (Mp.behind f n a b) hn
  have h4 := ownRow_put h3 (n + 1) hb
  refine ⟨f a, f n, _, Mp.behind f n a b, _, _, ownRow_cell h ha, ownRow_cell h (by omega), h.frozenAt n, ownRow_cell h1 ha, h1.frozenAt a, ownRow_cell h2 hb, ownRow_cell h2 hn, h2.frozenAt _, ownRow_cell h3 hb, h3.frozenAt b, h4, ?_⟩
  exact (((hb0.setCell hg _).setCell hg _).setCell hg _).setCell hg _

end Go.Proofs.Ytjpafacldcnboaa
