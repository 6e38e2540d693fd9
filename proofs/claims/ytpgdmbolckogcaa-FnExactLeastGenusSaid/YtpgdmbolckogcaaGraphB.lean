/-
  The walks of the program's and the model's DegreesOf and CountRotations, and of the darts of a vertex.
-/
import Derived.Test.YtpgdmbolckogcaaBase
import Derived.Test.YtpgdmbolckogcaaSlice
import Derived.Test.YtpgdmbolckogcaaIntRow
import Derived.Test.YtpgdmbolckogcaaInts
import Derived.Test.YtpgdmbolckogcaaOwn
import Derived.Test.YtpgdmbolckogcaaGrid
import Derived.Test.YtpgdmbolckogcaaClass
import Derived.Test.YtpgdmbolckogcaaLab
import Derived.Test.YtpgdmbolckogcaaMap
import Derived.Test.YtpgdmbolckogcaaMapB
import Derived.Test.YtpgdmbolckogcaaGraph
import Derived.Test.YtpgdmbolckogcaaGraphA
import Derived.Test.YtpgdmbolckogcaaGraphA2
import Derived.Deep.QuietTactic
import Derived.BigQuiet
namespace Go.Proofs.Ytpgdmbolckogcaa
open Go.RowKit

/-- The integers l of the call's own, from the block N on. -/
def RowI (w : World) (N : Nat) (wr : World) (ov : Value) (l : List Int) : Prop := wr.ownsRow N 3 1 ov l.length (intCells l) ∧ Below N w wr
theorem RowI.nil {w wr : World} {N : Nat} (hb : Below N w wr) : RowI w N wr (.slice none 0 0) [] := ⟨⟨rfl, Or.inl ⟨rfl, rfl⟩⟩, hb⟩
theorem RowI.made {w wr : World} {N : Nat} (hb : Below N w wr) (hN : N ≤ wr.heap.size) : RowI w N (wr.alloc (.cells #[] 3)) (.slice (some ⟨wr.heap.size, 0, none⟩) 0 0) [] :=
  ⟨own_mono (own_made rfl) hN, hb.alloc hN _⟩
theorem RowI.more {w wr w3 : World} {N : Nat} {ov v3 : Value} {l : List Int} {x : Int} {o : Obj} (h : RowI w N wr ov l) (hN : N ≤ wr.heap.size)
    (hown : w3.ownsRow N 3 1 v3 (l.length + 1) (intCells l ++ [.int .i64 x])) (hg : (wr.alloc o).grownBy w3 ov.ownBlock) : RowI w N w3 v3 (l ++ [x]) := by
  refine ⟨?_, (h.2.alloc hN _).grown hg (by simp; omega) (fun k hk => (h.1.lt k hk).1)⟩
  rw [← intCells_snoc, List.length_append]; exact hown
theorem RowI.below {w wr w' : World} {N : Nat} {ov : Value} {l : List Int} (h : RowI w N wr ov l) (hN : N ≤ wr.heap.size) (hb : Below wr.heap.size wr w') : RowI w N w' ov l :=
  ⟨own_keep h.1 hb (fun k hk => (h.1.lt k hk).2), h.2.trans (hb.mono hN)⟩
theorem RowI.gives {w wr : World} {ov : Value} {l : List Int} (h : RowI w w.heap.size wr ov l) : Gives w l (.returned ov) wr := own_gives h.1 rfl h.2
theorem Gives.form {w w' : World} {l : List Int} {v : Value} (h : Gives w l (.returned v) w') : ∃ a c, v = .slice a l.length c ∧ RowAt w' a (intCells l) ∧ Below w.heap.size w w' := by
  obtain ⟨a, c, e, _, _, h3, h4⟩ := h
  cases e; exact ⟨a, c, rfl, h3.row, h4⟩
theorem Gives.after {w w1 w2 : World} {l : List Int} {v : Value} (h : Gives w l (.returned v) w1) (hb : Below w1.heap.size w1 w2) : Gives w l (.returned v) w2 := by
  obtain ⟨a, c, e, h1, h2, h3, h4⟩ := h
  exact ⟨a, c, e, h1, h2, h3.below hb, h4.trans (hb.mono h4.size)⟩

theorem Gives.nilAt {w w' : World} {a : Option Addr} (hb : Below w.heap.size w w') : Gives w [] (.returned (.slice a 0 0)) w' := ⟨_, _, rfl, Nat.le_refl _, Nat.zero_le _, Or.inl rfl, hb⟩
theorem own_lit0 (W : World) (l : List Int) (n : Nat) (hl : l.length = n) (hm : n ≤ maxLen) : (W.alloc (.cells (intCells l).toArray 3)).ownsRow W.heap.size 3 1 (.slice (some ⟨W.heap.size, 0, none⟩) n n) n (intCells l) := by
  have h := World.ownsRow_lit (base := W.heap.size) (e := 3) (size := 1) W (intCells l).toArray n (Nat.le_refl _) hm (by simp [intCells_len, hl])
  simpa using h

namespace Gr
/-- The end of an edge at a dart. -/
theorem end_get {L : List (List Int)} (h : IsG L) {k i : Nat} (hk : k < L.length) (hi : i < 2) {r : List Int} (hr : L[k]? = some r) : r.length = 2 ∧ r[i]? = some ((vx L (2 * k + i) : Nat) : Int) := by
  obtain ⟨e, _⟩ := ends h hk
  rw [hr] at e
  cases e
  refine ⟨rfl, ?_⟩
  rcases (by omega : i = 0 ∨ i = 1) with rfl | rfl <;> rfl
theorem degs_yes {L : List (List Int)} (h : IsG L) : degs L = Cls.row (deg L) 7 := if_pos h
theorem degs_no {L : List (List Int)} (h : ¬ IsG L) : degs L = [] := if_neg h
theorem rots_yes {L : List (List Int)} (h : IsG L) : rots L = ((rot (vx L) (2 * L.length) 7 : Nat) : Int) := if_pos h
theorem rots_no {L : List (List Int)} (h : ¬ IsG L) : rots L = -1 := if_neg h
theorem row_more (f : Nat → Nat) (n : Nat) : Cls.row f n ++ [((f n : Nat) : Int)] = Cls.row f (n + 1) := by unfold Cls.row; rw [List.range_succ, List.map_append]; rfl
end Gr

set_option maxRecDepth 10000 in
set_option maxHeartbeats 2000000 in
theorem spec_l7Darts (a : Option Addr) (c : Nat) (L : List (List Int)) (v : Nat) (w : World) (ha : GridAt w a L) (hG : Gr.IsG L) (hv : v ≤ 1000) :
    Calls Try.prog 42 #[.slice a L.length c, .int .i64 (v : Int)] w fun e w' => Gives w (intsOf (Gr.at7 (Gr.vx L) (2 * L.length) v)) e w' := by
  obtain ⟨i0, hi0, hz0, hz1, hz2⟩ := info_int_parts
  have Hi0 := Lib.hid hi0; have Hz0 := Lib.hid hz0; have Hz1 := Lib.hid hz1; have Hz2 := Lib.hid hz2
  have hl10 := hG.2.2
  have Ha := Lib.hid ha; have HG := Lib.hid hG
  clear hi0 hz0 hz1 hz2 ha hG
  obtain ⟨N, hN⟩ : ∃ N, N = w.heap.size := ⟨_, rfl⟩
  have HN := Lib.hid hN; clear hN
  obtain ⟨u, hu⟩ : ∃ u, u = Gr.vx L := ⟨_, rfl⟩
  rw [← hu]
  have Hu := Lib.hid hu; clear hu
  go_enter Try.func42, Try.ntmps42
  go_wp2
  go_loopw [5, 6, 7] (fun ov kv _ wr => ∃ k : Nat, k ≤ L.length ∧ kv = .int .i64 k ∧ Hid (RowI w N wr ov (intsOf (Gr.at7 u (2 * k) v)))) (fun _ kv _ _ => L.length - (intOf kv).toNat)
  case atStart => exact ⟨0, by omega, rfl, Lib.hid (by rw [HN.out]; exact RowI.made (Below.refl _ _) (Nat.le_refl _))⟩
  case round =>
    obtain ⟨k, hk, rfl, hrow⟩ := hrel
    obtain ⟨wo, hwo⟩ : ∃ wo, wo = wr := ⟨_, rfl⟩
    by_cases hlt : k < L.length
    · have Hlt := Lib.hid hlt
      have hk10 : (k : Int) ≤ 10 := by omega
      go_wp2
      go_loopw [5, 7] (fun ov iv wr => ∃ i : Nat, i ≤ 2 ∧ iv = .int .i64 i ∧ Hid (RowI w N wr ov (intsOf (Gr.at7 u (2 * k + i) v)))) (fun _ iv _ => 2 - (intOf iv).toNat)
      case atStart => exact ⟨0, by omega, rfl, hrow⟩
      case round =>
        obtain ⟨i, hi, rfl, hrow⟩ := hrel
        by_cases hlt2 : i < 2
        · obtain ⟨r, hr⟩ := get_some hlt
          obtain ⟨hr2, hri⟩ := Gr.end_get HG.out hlt hlt2 hr
          rw [← Hu.out] at hri
          have hb := hrow.out.2
          have hNle : N ≤ wr.heap.size := by have := hb.size; have := HN.out; omega
          obtain ⟨b, o, ai, ci, rfl, hbw, hcell, hrw⟩ := (Ha.out.below (by rw [← HN.out]; exact hb)).get hr
          obtain ⟨b', o', rfl, hbw', hcell'⟩ := intCells_get? hrw hri
          have h0k : (0 : Int) ≤ (k : Int) := by omega
          have h1k : (k : Int) < (L.length : Int) := by omega
          have h0i : (0 : Int) ≤ (i : Int) := by omega
          have h1i : (i : Int) < (r.length : Int) := by omega
          have d2 : (i : Int) < 2 := by omega
          clear hrw hri hr hb
          by_cases he : u (2 * k + i) = v
          · have hq : (((u (2 * k + i) : Nat) : Int) == (v : Int)) = true := by rw [he]; simp
            have Hst : Hid (intsOf (Gr.at7 u (2 * k + (i + 1)) v) = intsOf (Gr.at7 u (2 * k + i) v) ++ [2 * (k : Int) + (i : Int)]) := Lib.hid (by
              rw [show 2 * k + (i + 1) = 2 * k + i + 1 by omega, Gr.at7_yes he, intsOf_snoc]
              congr 2)
            have hln : (intsOf (Gr.at7 u (2 * k + i) v)).length ≤ 100 := by rw [intsOf_len]; have := Gr.at7_len u (2 * k + i) v; omega
            generalize hz : u (2 * k + i) = z at *
            generalize intsOf (Gr.at7 u (2 * k + i) v) = l1 at *
            have hm1 : l1.length + 1 ≤ maxLen := by unfold maxLen; omega
            have hm2 : (l1.length + 1) * 8 ≤ 140737488355328 := by omega
            have hown := hrow.out.1
            obtain ⟨av, cv, rfl⟩ := own_len hown
            clear he hz hln
            go_wp2_with (at_builtin; refine append_one rfl (.tmp 28) (.tmp 33) 27 rfl N 3 i0 _ 8 Try.underlying27 Hi0.out Hz0.out Hz1.out Hz2.out (by rfl) _ _ _ rfl hown (by rfl) _ rfl hm1 hm2 hNle ?_; intro v3 w3 hown3 hg3 _; obtain ⟨a3, c3, rfl⟩ := own_len hown3)
            go_roundw
            case rel => exact ⟨i + 1, by omega, by go_num, Lib.hid (by rw [Hst.out]; exact hrow.out.more hNle hown3 hg3)⟩
            case measure => simp [intOf] <;> omega
          · have hq : (((u (2 * k + i) : Nat) : Int) == (v : Int)) = false := beq_eq_false_iff_ne.2 (by omega)
            have Hst : Hid (intsOf (Gr.at7 u (2 * k + (i + 1)) v) = intsOf (Gr.at7 u (2 * k + i) v)) := Lib.hid (by
              rw [show 2 * k + (i + 1) = 2 * k + i + 1 by omega, Gr.at7_no he])
            generalize hz : u (2 * k + i) = z at *
            clear he hz
            go_wp2
            go_roundw
            case rel => exact ⟨i + 1, by omega, by go_num, Lib.hid (by rw [Hst.out]; exact hrow.out)⟩
            case measure => simp [intOf] <;> omega
        · obtain rfl : i = 2 := by omega
          clear hlt2
          go_wp2
          go_roundw
          case rel => exact ⟨k + 1, Hlt.out, by go_num, hrow⟩
          case measure => have := Hlt.out; simp [intOf] <;> omega
    · obtain rfl : k = L.length := by omega
      go_wp2
      go_ret
      have h := hrow.out
      rw [HN.out] at h
      exact h.gives

set_option maxRecDepth 10000 in
set_option maxHeartbeats 2000000 in
theorem spec_DegreesOf (a : Option Addr) (c : Nat) (L : List (List Int)) (w : World) (ha : GridAt w a L) (hl : tot L ≤ 1048576) :
    Calls Try.prog 17 #[.slice a L.length c] w fun e w' => Gives w (Gr.degs L) e w' := by
  have hI := fun W (h : GridAt W a L) => spec_IsGraph a c L W h hl
  have Ha := Lib.hid ha
  clear ha
  by_cases hG : Gr.IsG L
  · rw [Gr.degs_yes hG]
    rw [decide_eq_true hG] at hI
    obtain ⟨i0, hi0, hz0, hz1, hz2⟩ := info_int_parts
    have Hi0 := Lib.hid hi0; have Hz0 := Lib.hid hz0; have Hz1 := Lib.hid hz1; have Hz2 := Lib.hid hz2
    have hD := fun v W (h : GridAt W a L) (hv : v ≤ 1000) => spec_l7Darts a c L v W h hG hv
    have hdl : ∀ v, Gr.deg L v ≤ 100 := fun v => by have := Gr.at7_len (Gr.vx L) (2 * L.length) v; have := hG.2.2; unfold Gr.deg; omega
    have HI := Lib.hid hI; have HD := Lib.hid hD; have Hdl := Lib.hid hdl
    clear hi0 hz0 hz1 hz2 hI hD hdl hG
    obtain ⟨N, hN⟩ : ∃ N, N = w.heap.size := ⟨_, rfl⟩
    have HN := Lib.hid hN; clear hN
    go_enter Try.func17, Try.ntmps17
    go_wp2
    go_loopw [3, 4] (fun ov vv wr => ∃ v : Nat, v ≤ 7 ∧ vv = .int .i64 v ∧ Hid (RowI w N wr ov (Cls.row (Gr.deg L) v))) (fun _ vv _ => 7 - (intOf vv).toNat)
    case atStart => exact ⟨0, by omega, rfl, Lib.hid (by rw [HN.out]; exact RowI.made (Below.refl _ _) (Nat.le_refl _))⟩
    case round =>
      obtain ⟨v, hv, rfl, hrow⟩ := hrel
      by_cases hlt : v < 7
      · have hb := hrow.out.2
        have hNle : N ≤ wr.heap.size := by have := hb.size; have := HN.out; omega
        have d1 : (v : Int) < 7 := by omega
        have Hb := Lib.hid hb; clear hb
        go_wp2_with fail
        refine (HI.out wr (Ha.out.below (by rw [← HN.out]; exact Hb.out))).mono ?_
        rintro e w1 ⟨rfl, hb1⟩
        have hrow1 := hrow.out.below hNle hb1
        have hNle1 : N ≤ w1.heap.size := Nat.le_trans hNle hb1.size
        have Hrow1 := Lib.hid hrow1
        clear hb1 hrow1
        go_wp2_with fail
        refine (HD.out v w1 (Ha.out.below (by rw [← HN.out]; exact Hrow1.out.2)) (by omega)).mono ?_
        rintro e w2 ⟨a2, c2, rfl, _, _, _, hb2⟩
        have hrow2 := Hrow1.out.below hNle1 hb2
        have hNle2 : N ≤ w2.heap.size := Nat.le_trans hNle1 hb2.size
        have hdv : (intsOf (Gr.at7 (Gr.vx L) (2 * L.length) v)).length = Gr.deg L v := intsOf_len _
        rw [hdv]
        have hd100 := Hdl.out v
        have Hst := Lib.hid (Gr.row_more (Gr.deg L) v)
        have hln := Cls.row_len (Gr.deg L) v
        clear hb2 hdv hrow Hb Hrow1 hNle hNle1
        generalize Gr.deg L v = d at *
        generalize Cls.row (Gr.deg L) v = l1 at *
        have Hrow2 := Lib.hid hrow2
        have hown := hrow2.1
        have hm1 : l1.length + 1 ≤ maxLen := by unfold maxLen; omega
        have hm2 : (l1.length + 1) * 8 ≤ 140737488355328 := by omega
        obtain ⟨av, cv, rfl⟩ := own_len hown
        clear hrow2 hln
        go_wp2_with (at_builtin; refine append_one rfl (.tmp 14) (.tmp 19) 27 rfl N 3 i0 _ 8 Try.underlying27 Hi0.out Hz0.out Hz1.out Hz2.out (by rfl) _ _ _ rfl hown (by rfl) _ rfl hm1 hm2 hNle2 ?_; intro v3 w3 hown3 hg3 _; obtain ⟨a3, c3, rfl⟩ := own_len hown3)
        go_roundw
        case rel => exact ⟨v + 1, by omega, by go_num, Lib.hid (by rw [← Hst.out]; exact Hrow2.out.more hNle2 hown3 hg3)⟩
        case measure => simp [intOf] <;> omega
      · obtain rfl : v = 7 := by omega
        clear hlt
        go_wp2
        go_ret
        have h := hrow.out
        rw [HN.out] at h
        exact h.gives
  · rw [Gr.degs_no hG]
    rw [decide_eq_false hG] at hI
    have HI := Lib.hid hI
    clear hI hG
    go_enter Try.func17, Try.ntmps17
    go_wp2
    go_loopw [3, 4] (fun ov vv wr => vv = .int .i64 0 ∧ (∃ a, ov = .slice a 0 0) ∧ Hid (Below w.heap.size w wr)) (fun _ _ _ => 0)
    case atStart => exact ⟨rfl, ⟨_, rfl⟩, Lib.hid ((Below.refl _ _).alloc (Nat.le_refl _) _)⟩
    case round =>
      obtain ⟨rfl, ⟨ao, rfl⟩, hb⟩ := hrel
      go_wp2_with fail
      refine (HI.out wr (Ha.out.below hb.out)).mono ?_
      rintro e w1 ⟨rfl, hb1⟩
      have Hb1 := Lib.hid hb1; clear hb1
      go_wp2
      go_ret
      exact Gives.later (Gives.nilAt (hb.out.trans (Hb1.out.mono hb.out.size))) (Below.refl _ _)

set_option maxRecDepth 10000 in
set_option maxHeartbeats 2000000 in
theorem impl_DegreesOf (a : Option Addr) (c : Nat) (L : List (List Int)) (w : World) (ha : GridAt w a L) (hl : tot L ≤ 1048576) :
    Calls Try.prog 18 #[.slice a L.length c] w fun e w' => Gives w (Gr.degs L) e w' := by
  have hI := impl_IsGraph a c L w ha hl
  by_cases hG : Gr.IsG L
  · rw [Gr.degs_yes hG]
    rw [decide_eq_true hG] at hI
    have hmk : ∀ W : World, (Instr.makeSlice 27 (.int .i64 7) (.int .i64 7)).run Try.prog W = .ok (.slice (some ⟨W.heap.size, 0, none⟩) 7 7) (W.alloc (.cells (intCells (Cls.row (fun _ => 0) 7)).toArray 3)) := fun W => mk_zeros 7 (by decide) W
    have hst := fun (W : World) => own_lit0 W (Cls.row (fun _ => 0) 7) 7 (Cls.row_len _ _) (by unfold maxLen; omega)
    have hl10 := hG.2.2
    have HI := Lib.hid hI; have Ha := Lib.hid ha; have HG := Lib.hid hG; have Hst := Lib.hid hst
    clear hI ha hG hst
    obtain ⟨u, hu⟩ : ∃ u, u = Gr.vx L := ⟨_, rfl⟩
    have Hu := Lib.hid hu; clear hu
    go_enter Try.func18, Try.ntmps18
    go_wp2_with fail
    refine HI.out.mono ?_
    rintro e w1 ⟨rfl, hb1⟩
    have Hb1 := Lib.hid hb1; clear hb1
    generalize hG1 : w1.heap.size = G at *
    have HG1 := Lib.hid hG1
    go_wp2
    clear hG1
    go_loopw [5, 12] (fun _ kv wr => ∃ k : Nat, k ≤ L.length ∧ kv = .int .i64 k ∧ Hid (wr.ownsRow w.heap.size 3 1 (.slice (some ⟨G, 0, none⟩) 7 7) 7 (intCells (Cls.row (fun v => (Gr.at7 u (2 * k) v).length) 7))) ∧ Hid (Below w.heap.size w wr)) (fun _ kv _ => L.length - (intOf kv).toNat)
    case atStart => exact ⟨0, by omega, rfl, Lib.hid (by have h := Hst.out w1; rw [HG1.out] at h; exact own_mono h (by have := Hb1.out.size; have := HG1.out; omega)), Lib.hid (Hb1.out.alloc Hb1.out.size _)⟩
    case round =>
      obtain ⟨k, hk, rfl, hrow, hb⟩ := hrel
      by_cases hlt : k < L.length
      · obtain ⟨r, hr⟩ := get_some hlt
        obtain ⟨e, l1, l2, hne⟩ := Gr.ends HG.out hlt
        rw [← Hu.out] at e l1 l2 hne
        rw [hr] at e
        cases e
        have h2k : 2 * (k + 1) = 2 * k + 1 + 1 := by omega
        have hf1 : ∀ v, (if v = u (2 * k) then (Gr.at7 u (2 * k) v).length + 1 else (Gr.at7 u (2 * k) v).length) = (Gr.at7 u (2 * k + 1) v).length := fun v => by
          by_cases e : v = u (2 * k)
          · rw [if_pos e, Gr.at7_yes e.symm, List.length_append]; rfl
          · rw [if_neg e, Gr.at7_no (fun h => e h.symm)]
        have hf2 : ∀ v, (if v = u (2 * k + 1) then (Gr.at7 u (2 * k + 1) v).length + 1 else (Gr.at7 u (2 * k + 1) v).length) = (Gr.at7 u (2 * (k + 1)) v).length := fun v => by
          rw [h2k]
          by_cases e : v = u (2 * k + 1)
          · rw [if_pos e, Gr.at7_yes e.symm, List.length_append]; rfl
          · rw [if_neg e, Gr.at7_no (fun h => e h.symm)]
        obtain ⟨b, o, ai, ci, rfl, hbw, hcell, hrw⟩ := Ha.out.get hr
        obtain ⟨b', o', rfl, hbw', hx, hy⟩ := two_cells hrw
        have hlo := (hrow.out.lt G rfl).1
        have hn1 := Gr.at7_len u (2 * k) (u (2 * k))
        have hn2 := Gr.at7_len u (2 * k + 1) (u (2 * k + 1))
        generalize u (2 * k) = x at *
        generalize u (2 * k + 1) = y at *
        have c1 : wr.cell? ⟨b, o + k, none⟩ = some (.slice (some ⟨b', o', none⟩) 2 ci) := by rw [hb.out.cell (p := ⟨b, o + k, none⟩) hbw]; exact hcell
        have c2 : wr.cell? ⟨b', o', none⟩ = some (.int .i64 (x : Int)) := by rw [hb.out.cell (p := ⟨b', o', none⟩) hbw']; exact hx
        have g1 := ownRow_cell hrow.out l1
        have z1 := hrow.out.frozenAt x
        have p1 := ownRow_put hrow.out ((Gr.at7 u (2 * k) x).length + 1) l1
        have q1 : Cls.row (Mp.upd (fun v => (Gr.at7 u (2 * k) v).length) x ((Gr.at7 u (2 * k) x).length + 1)) 7 = Cls.row (fun v => (Gr.at7 u (2 * k + 1) v).length) 7 := row_congr fun v _ => by
          rw [← hf1 v]; unfold Mp.upd
          by_cases e : v = x
          · simp [e]
          · simp [e]
        rw [q1, show (((Gr.at7 u (2 * k) x).length + 1 : Nat) : Int) = ((Gr.at7 u (2 * k) x).length : Int) + 1 by omega] at p1
        have b1 : Below w.heap.size w (wr.setCell ⟨G, x, none⟩ (.int .i64 (((Gr.at7 u (2 * k) x).length : Int) + 1))) := hb.out.setCell hlo _
        have c3 : (wr.setCell ⟨G, x, none⟩ (.int .i64 (((Gr.at7 u (2 * k) x).length : Int) + 1))).cell? ⟨b', o' + 1, none⟩ = some (.int .i64 (y : Int)) := by rw [b1.cell (p := ⟨b', o' + 1, none⟩) hbw']; exact hy
        have g2 := ownRow_cell p1 l2
        have z2 := p1.frozenAt y
        have p2 := ownRow_put p1 ((Gr.at7 u (2 * k + 1) y).length + 1) l2
        have q2 : Cls.row (Mp.upd (fun v => (Gr.at7 u (2 * k + 1) v).length) y ((Gr.at7 u (2 * k + 1) y).length + 1)) 7 = Cls.row (fun v => (Gr.at7 u (2 * (k + 1)) v).length) 7 := row_congr fun v _ => by
          rw [← hf2 v]; unfold Mp.upd
          by_cases e : v = y
          · simp [e]
          · simp [e]
        rw [q2, show (((Gr.at7 u (2 * k + 1) y).length + 1 : Nat) : Int) = ((Gr.at7 u (2 * k + 1) y).length : Int) + 1 by omega] at p2
        have b2 := b1.setCell (p := ⟨G, y, none⟩) hlo (.int .i64 (((Gr.at7 u (2 * k + 1) y).length : Int) + 1))
        have P2 := Lib.hid p2; have B2 := Lib.hid b2
        have h0x : (0 : Int) ≤ (x : Int) := by omega
        have h1x : (x : Int) < 7 := by omega
        have h0y : (0 : Int) ≤ (y : Int) := by omega
        have h1y : (y : Int) < 7 := by omega
        clear p1 p2 b1 b2 q1 q2 hf1 hf2 hx hy hrw hcell hr hne hlo
        generalize (Gr.at7 u (2 * k) x).length = dx at *
        generalize (Gr.at7 u (2 * k + 1) y).length = dy at *
        go_wp2
        go_roundw
        case rel => exact ⟨k + 1, by omega, by go_num, P2, B2⟩
        case measure => simp [intOf] <;> omega
      · obtain rfl : k = L.length := by omega
        have hf : Cls.row (fun v => (Gr.at7 u (2 * L.length) v).length) 7 = Cls.row (Gr.deg L) 7 := by rw [Hu.out]; rfl
        have Hf := Lib.hid hf
        clear hf hlt
        go_wp2
        go_ret
        have h := hrow.out
        rw [Hf.out] at h
        exact own_gives h (Cls.row_len _ _) hb.out
  · rw [Gr.degs_no hG]
    rw [decide_eq_false hG] at hI
    have HI := Lib.hid hI
    clear hI hG ha
    go_enter Try.func18, Try.ntmps18
    go_wp2_with fail
    refine HI.out.mono ?_
    rintro e w1 ⟨rfl, hb1⟩
    go_wp2
    go_ret
    exact Gives.none hb1
end Go.Proofs.Ytpgdmbolckogcaa
