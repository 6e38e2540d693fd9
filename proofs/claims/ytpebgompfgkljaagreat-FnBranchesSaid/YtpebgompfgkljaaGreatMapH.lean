/-
  The walk of the model's AddEdge.
-/
import Derived.Test.YtpebgompfgkljaaGreatBase
import Derived.Test.YtpebgompfgkljaaGreatSlice
import Derived.Test.YtpebgompfgkljaaGreatInts
import Derived.Test.YtpebgompfgkljaaGreatGrid
import Derived.Test.YtpebgompfgkljaaGreatOwn
import Derived.Test.YtpebgompfgkljaaGreatAppend
import Derived.Test.YtpebgompfgkljaaGreatWord
import Derived.Test.YtpebgompfgkljaaGreatIsWord
import Derived.Test.YtpebgompfgkljaaGreatClass
import Derived.Test.YtpebgompfgkljaaGreatLab
import Derived.Test.YtpebgompfgkljaaGreatMap
import Derived.Test.YtpebgompfgkljaaGreatMapA
import Derived.Test.YtpebgompfgkljaaGreatMapB
import Derived.Test.YtpebgompfgkljaaGreatMapG
import Derived.Deep.QuietTactic
import Derived.BigQuiet
namespace Go.Proofs.YtpebgompfgkljaaGreat
open Go.RowKit

/-- The first append: the map's darts in a row of the call's own. -/
theorem copied {w0 w1 : World} {v1 : Value} {l : List Int} (h0 : l = Cls.row (Mp.at_ l) l.length) (ho : w1.ownsRow w0.heap.size 3 1 v1 (0 + l.length) (intCells [] ++ intCells l)) (hg : (w0.alloc (.cells #[] 3)).grownBy w1 (Value.slice (some ⟨w0.heap.size, 0, none⟩) 0 0).ownBlock) :
    w1.ownsRow w0.heap.size 3 1 v1 l.length (intCells (Cls.row (Mp.at_ l) l.length)) ∧ Below w0.heap.size w0 w1 ∧ w0.heap.size ≤ w1.heap.size := by
  rw [Nat.zero_add] at ho
  have hb1 : Below w0.heap.size w0 w1 := ((Below.refl _ _).alloc (Nat.le_refl _) _).grown hg (by simp) (fun k hk => by rw [own_block hk]; exact Nat.le_refl _)
  rw [← h0]
  exact ⟨ho, hb1, hb1.size⟩
/-- The second: two darts more. -/
theorem copied2 {w0 w1 w2 : World} {v1 v2 : Value} {n x y : Nat} {f : Nat → Nat} {u1 u2 : Value} (hu1 : u1 = .int .i64 (x : Int)) (hu2 : u2 = .int .i64 (y : Int)) (h1 : w1.ownsRow w0.heap.size 3 1 v1 n (intCells (Cls.row f n))) (hb : Below w0.heap.size w0 w1)
    (ho : w2.ownsRow w0.heap.size 3 1 v2 (n + 2) (intCells (Cls.row f n) ++ [u1, u2])) (hg : (w1.alloc (.cells #[u1, u2] 3)).grownBy w2 v1.ownBlock) :
    ∃ g cap, v2 = .slice (some ⟨g, 0, none⟩) (n + 2) cap ∧ w2.ownsRow w0.heap.size 3 1 (.slice (some ⟨g, 0, none⟩) (n + 2) cap) (n + 2) (intCells (Cls.row (Mp.plus f n x y) (n + 2))) ∧ Below w0.heap.size w0 w2 := by
  subst hu1; subst hu2
  obtain ⟨g, cap, rfl, _, _⟩ := own_form ho (by omega)
  refine ⟨g, cap, rfl, ?_, (hb.alloc hb.size _).grown hg (by simp; have := hb.size; omega) (fun k hk => (h1.lt k hk).1)⟩
  rw [intCells_two, Mp.plus_row] at ho
  exact ho

set_option maxRecDepth 10000 in
set_option maxHeartbeats 4000000 in
theorem spec_AddEdge (a : Option Addr) (c : Nat) (l : List Int) (va vb : Int) (w : World) (ha : RowAt w a (intCells l)) (hl : l.length ≤ 1048576) (_ : -9223372036854775808 ≤ va) (_ : va ≤ 9223372036854775807) (_ : -9223372036854775808 ≤ vb) (_ : vb ≤ 9223372036854775807) :
    Calls Tryz.prog 137 #[.slice a l.length c, .int .i64 va, .int .i64 vb] w fun e w' => Gives2 w (Mp.add l va vb) (decide (Mp.AddOk l va vb)) e w' := by
  have hc := spec_IsMap a c l w ha hl
  by_cases hM : Mp.IsM l
  · rw [decide_eq_true hM] at hc
    have hn := hM.2.1
    have h2 := hM.1
    have hw0 : IntKind.i64.wrap ((l.length : Int) - 1) = (l.length : Int) - 1 := wrap_small (by omega) (by omega)
    have hw2 : IntKind.i64.wrap ((l.length : Int) + 2) = (l.length : Int) + 2 := wrap_small (by omega) (by omega)
    have hA := fun W => spec_l1In va 0 ((l.length : Int) - 1) W
    have hB := fun W => spec_l1In vb 0 ((l.length : Int) - 1) W
    by_cases h1 : Mp.Dart l va
    · rw [decide_eq_true (show 0 ≤ va ∧ va ≤ (l.length : Int) - 1 from ⟨h1.1, by have := h1.2; omega⟩)] at hA
      by_cases h2 : Mp.Dart l vb
      · rw [decide_eq_true (show 0 ≤ vb ∧ vb ≤ (l.length : Int) - 1 from ⟨h2.1, by have := h2.2; omega⟩)] at hB
        by_cases h3 : Mp.Room l
        · have hok : Mp.AddOk l va vb := ⟨hM, h1, h2, h3⟩
          have h3' : ¬ (24 : Int) < (l.length : Int) + 2 := by unfold Mp.Room at h3; omega
          rw [decide_eq_true hok]
          have hv : Mp.add l va vb = Cls.row (Mp.addF l va.toNat vb.toNat) (l.length + 2) := if_pos hok
          rw [hv]
          obtain ⟨x, rfl⟩ : ∃ x : Nat, va = ((x : Nat) : Int) := ⟨va.toNat, by have := h1.1; omega⟩
          obtain ⟨y, rfl⟩ : ∃ y : Nat, vb = ((y : Nat) : Int) := ⟨vb.toNat, by have := h2.1; omega⟩
          have hx : x < l.length := by have := h1.2; omega
          have hy : y < l.length := by have := h2.2; omega
          simp only [Int.toNat_natCast]
          obtain ⟨i0, hi0, hz0, hz1, hz2⟩ := info_int_parts
          have hw1 : IntKind.i64.wrap ((l.length : Int) + 1) = (l.length : Int) + 1 := wrap_small (by omega) (by omega)
          have ht1 : ((l.length : Int) + 1).toNat = l.length + 1 := by omega
          have hrow0 : l = Cls.row (Mp.at_ l) l.length := (Mp.at_row hM.2.2.2).symm
          have hfin := fun (W : World) (lo g cap : Nat) (h : W.ownsRow lo 3 1 (.slice (some ⟨g, 0, none⟩) (l.length + 2) cap) (l.length + 2) (intCells (Cls.row (Mp.behind (Mp.behind (Mp.plus (Mp.at_ l) l.length 0 0) l.length x) (l.length + 1) (if x = y then l.length else y)) (l.length + 2)))) => (show W.ownsRow lo 3 1 (.slice (some ⟨g, 0, none⟩) (l.length + 2) cap) (l.length + 2) (intCells (Cls.row (Mp.addF l x y) (l.length + 2))) by rw [← row_congr (Mp.addF_plus hx hy 0 0)]; exact h)
          have Hc := Lib.hid hc; have HA := Lib.hid hA; have HB := Lib.hid hB; have Hi0 := Lib.hid hi0; have Hz0 := Lib.hid hz0; have Hz1 := Lib.hid hz1; have Hz2 := Lib.hid hz2
          have Ha := Lib.hid ha; have Hrow0 := Lib.hid hrow0; have Hfin := Lib.hid hfin
          have hm1 : 0 + l.length ≤ maxLen := by unfold maxLen; omega
          have hm2 : (0 + l.length) * 8 ≤ 140737488355328 := by omega
          have hm3 : l.length + 2 ≤ maxLen := by unfold maxLen; omega
          have hm4 : (l.length + 2) * 8 ≤ 140737488355328 := by omega
          clear hc hA hB hi0 hz0 hz1 hz2 hM h1 h2 h3 hok hv ha hrow0 hfin
          by_cases hxy : x = y
          · have hq : ((x : Int) == (y : Int)) = true := by rw [hxy]; simp
            have Hxy := Lib.hid hxy
            clear hxy
            go_enter Tryz.func137, Tryz.ntmps137
            go_wp2_with fail
            refine Hc.out.mono ?_
            rintro e w0 ⟨rfl, hb⟩
            have Hb := Lib.hid hb; clear hb
            go_wp2_with fail
            refine (HA.out _).mono ?_
            rintro e w1 ⟨rfl, hw⟩
            rw [hw]; clear hw
            go_wp2_with fail
            refine (HB.out _).mono ?_
            rintro e w1 ⟨rfl, hw⟩
            rw [hw]; clear hw
            have Hown0 : Hid ((w0.alloc (.cells #[] 3)).ownsRow w0.heap.size 3 1 (.slice (some ⟨w0.heap.size, 0, none⟩) 0 0) 0 (intCells [])) := Lib.hid (own_made rfl)
            have Hr0 := Lib.hid ((Ha.out.below Hb.out).below ((Below.refl _ _).alloc (Nat.le_refl _) (.cells #[] 3)))
            have hbs : w0.heap.size ≤ (w0.alloc (.cells #[] 3)).heap.size := by simp
            go_wp2_with (at_builtin; first | (refine append_row rfl (.tmp 38) (.tmp 39) 30 rfl w0.heap.size 3 i0 _ 8 Tryz.underlying30 Hi0.out Hz0.out Hz1.out Hz2.out (by rfl) _ _ _ rfl Hown0.out _ _ _ _ rfl Hr0.out (by rw [intCells_len]) (intCells_one l) hm1 hm2 hbs ?_; intro v1 w1 hown1 hg1; obtain ⟨hown2, hb1, hs1⟩ := copied Hrow0.out hown1 hg1; have Hb1 := Lib.hid hb1; clear hb1) | (refine append_two rfl (.tmp 40) (.tmp 41) 30 rfl w0.heap.size 3 i0 _ 8 Tryz.underlying30 Hi0.out Hz0.out Hz1.out Hz2.out (by rfl) _ _ _ rfl hown2 (by rfl) (by rfl) _ rfl hm3 hm4 hs1 ?_; intro v2 w2 hown3 hg2; obtain ⟨g, cap, rfl, hown4, hb2⟩ := copied2 (x := 0) (y := 0) rfl rfl hown2 Hb1.out hown3 hg2; obtain ⟨fa, z1, z2, fb, z3, z4, q1, q2, q3, q4, q5, q6, q7, q8, q9, q10, hown5, hb5⟩ := stores4 (n := l.length) (a := x) (b := l.length) hown4 hb2 (by omega) (by omega) (by omega); have Hown5 := Lib.hid hown5; have Hb5 := Lib.hid (Hb.out.trans (hb5.mono Hb.out.size)); clear hown5 hb5 hown4 hown3 hown2 hown1 hg1 hg2 hb2))
            go_wp2
            go_ret2
            have hf := Hfin.out _ _ _ _ (by rw [if_pos Hxy.out]; exact Hown5.out)
            exact (own_gives (own_mono hf Hb.out.size) (Cls.row_len _ _) Hb5.out).with
          · have hq : ((x : Int) == (y : Int)) = false := beq_eq_false_iff_ne.2 (by omega)
            have Hxy := Lib.hid hxy
            clear hxy
            go_enter Tryz.func137, Tryz.ntmps137
            go_wp2_with fail
            refine Hc.out.mono ?_
            rintro e w0 ⟨rfl, hb⟩
            have Hb := Lib.hid hb; clear hb
            go_wp2_with fail
            refine (HA.out _).mono ?_
            rintro e w1 ⟨rfl, hw⟩
            rw [hw]; clear hw
            go_wp2_with fail
            refine (HB.out _).mono ?_
            rintro e w1 ⟨rfl, hw⟩
            rw [hw]; clear hw
            have Hown0 : Hid ((w0.alloc (.cells #[] 3)).ownsRow w0.heap.size 3 1 (.slice (some ⟨w0.heap.size, 0, none⟩) 0 0) 0 (intCells [])) := Lib.hid (own_made rfl)
            have Hr0 := Lib.hid ((Ha.out.below Hb.out).below ((Below.refl _ _).alloc (Nat.le_refl _) (.cells #[] 3)))
            have hbs : w0.heap.size ≤ (w0.alloc (.cells #[] 3)).heap.size := by simp
            go_wp2_with (at_builtin; first | (refine append_row rfl (.tmp 38) (.tmp 39) 30 rfl w0.heap.size 3 i0 _ 8 Tryz.underlying30 Hi0.out Hz0.out Hz1.out Hz2.out (by rfl) _ _ _ rfl Hown0.out _ _ _ _ rfl Hr0.out (by rw [intCells_len]) (intCells_one l) hm1 hm2 hbs ?_; intro v1 w1 hown1 hg1; obtain ⟨hown2, hb1, hs1⟩ := copied Hrow0.out hown1 hg1; have Hb1 := Lib.hid hb1; clear hb1) | (refine append_two rfl (.tmp 40) (.tmp 41) 30 rfl w0.heap.size 3 i0 _ 8 Tryz.underlying30 Hi0.out Hz0.out Hz1.out Hz2.out (by rfl) _ _ _ rfl hown2 (by rfl) (by rfl) _ rfl hm3 hm4 hs1 ?_; intro v2 w2 hown3 hg2; obtain ⟨g, cap, rfl, hown4, hb2⟩ := copied2 (x := 0) (y := 0) rfl rfl hown2 Hb1.out hown3 hg2; obtain ⟨fa, z1, z2, fb, z3, z4, q1, q2, q3, q4, q5, q6, q7, q8, q9, q10, hown5, hb5⟩ := stores4 (n := l.length) (a := x) (b := y) hown4 hb2 (by omega) (by omega) (by omega); have Hown5 := Lib.hid hown5; have Hb5 := Lib.hid (Hb.out.trans (hb5.mono Hb.out.size)); clear hown5 hb5 hown4 hown3 hown2 hown1 hg1 hg2 hb2))
            go_wp2
            go_ret2
            have hf := Hfin.out _ _ _ _ (by rw [if_neg Hxy.out]; exact Hown5.out)
            exact (own_gives (own_mono hf Hb.out.size) (Cls.row_len _ _) Hb5.out).with
        · have h3' : (24 : Int) < (l.length : Int) + 2 := by unfold Mp.Room at h3; omega
          have hok : ¬ Mp.AddOk l va vb := fun h => h3 h.2.2.2
          rw [decide_eq_false hok, show Mp.add l va vb = [] from if_neg hok]
          have Hc := Lib.hid hc; have HA := Lib.hid hA; have HB := Lib.hid hB
          clear hc hA hB ha hok hM
          go_enter Tryz.func137, Tryz.ntmps137
          go_wp2_with fail
          refine Hc.out.mono ?_
          rintro e w0 ⟨rfl, hb⟩
          have Hb := Lib.hid hb; clear hb
          go_wp2_with fail
          refine (HA.out _).mono ?_
          rintro e w1 ⟨rfl, hw⟩
          rw [hw]; clear hw
          go_wp2_with fail
          refine (HB.out _).mono ?_
          rintro e w1 ⟨rfl, hw⟩
          rw [hw]; clear hw
          go_wp2
          go_ret2
          exact ⟨_, _, rfl, Nat.le_refl _, Nat.zero_le _, Or.inl rfl, Hb.out.alloc Hb.out.size _⟩
      · rw [decide_eq_false (show ¬ (0 ≤ vb ∧ vb ≤ (l.length : Int) - 1) from fun h => h2 ⟨h.1, by have := h.2; omega⟩)] at hB
        have hok : ¬ Mp.AddOk l va vb := fun h => h2 h.2.2.1
        rw [decide_eq_false hok, show Mp.add l va vb = [] from if_neg hok]
        have Hc := Lib.hid hc; have HA := Lib.hid hA; have HB := Lib.hid hB
        clear hc hA hB ha hok hM
        go_enter Tryz.func137, Tryz.ntmps137
        go_wp2_with fail
        refine Hc.out.mono ?_
        rintro e w0 ⟨rfl, hb⟩
        have Hb := Lib.hid hb; clear hb
        go_wp2_with fail
        refine (HA.out _).mono ?_
        rintro e w1 ⟨rfl, hw⟩
        rw [hw]; clear hw
        go_wp2_with fail
        refine (HB.out _).mono ?_
        rintro e w1 ⟨rfl, hw⟩
        rw [hw]; clear hw
        go_wp2
        go_ret2
        exact ⟨_, _, rfl, Nat.le_refl _, Nat.zero_le _, Or.inl rfl, Hb.out.alloc Hb.out.size _⟩
    · rw [decide_eq_false (show ¬ (0 ≤ va ∧ va ≤ (l.length : Int) - 1) from fun h => h1 ⟨h.1, by have := h.2; omega⟩)] at hA
      have hok : ¬ Mp.AddOk l va vb := fun h => h1 h.2.1
      rw [decide_eq_false hok, show Mp.add l va vb = [] from if_neg hok]
      have Hc := Lib.hid hc; have HA := Lib.hid hA
      clear hc hA hB ha hok hM
      go_enter Tryz.func137, Tryz.ntmps137
      go_wp2_with fail
      refine Hc.out.mono ?_
      rintro e w0 ⟨rfl, hb⟩
      have Hb := Lib.hid hb; clear hb
      go_wp2_with fail
      refine (HA.out _).mono ?_
      rintro e w1 ⟨rfl, hw⟩
      rw [hw]; clear hw
      go_wp2
      go_ret2
      exact ⟨_, _, rfl, Nat.le_refl _, Nat.zero_le _, Or.inl rfl, Hb.out.alloc Hb.out.size _⟩
  · rw [decide_eq_false hM] at hc
    have hok : ¬ Mp.AddOk l va vb := fun h => hM h.1
    rw [decide_eq_false hok, show Mp.add l va vb = [] from if_neg hok]
    have Hc := Lib.hid hc
    clear hc hM ha hok
    go_enter Tryz.func137, Tryz.ntmps137
    go_wp2_with fail
    refine Hc.out.mono ?_
    rintro e w1 ⟨rfl, hb⟩
    have Hb := Lib.hid hb; clear hb
    go_wp2
    go_ret2
    exact ⟨_, _, rfl, Nat.le_refl _, Nat.zero_le _, Or.inl rfl, Hb.out.alloc Hb.out.size _⟩
end Go.Proofs.YtpebgompfgkljaaGreat
