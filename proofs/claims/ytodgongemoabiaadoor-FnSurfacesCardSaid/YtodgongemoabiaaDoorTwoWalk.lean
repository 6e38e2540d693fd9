/-
  The walks of the program's and the model's IsTwoSided.
-/
import Derived.Test.YtodgongemoabiaaDoorBase
import Derived.Test.YtodgongemoabiaaDoorSlice
import Derived.Test.YtodgongemoabiaaDoorInts
import Derived.Test.YtodgongemoabiaaDoorWord
import Derived.Test.YtodgongemoabiaaDoorGrid
import Derived.Test.YtodgongemoabiaaDoorGlue
import Derived.Test.YtodgongemoabiaaDoorClass
import Derived.Test.YtodgongemoabiaaDoorTri
import Derived.Test.YtodgongemoabiaaDoorIsWord
import Derived.Test.YtodgongemoabiaaDoorUses
import Derived.Test.YtodgongemoabiaaDoorUses2
import Derived.Test.YtodgongemoabiaaDoorIsGluing
import Derived.Test.YtodgongemoabiaaDoorTwo
import Derived.Deep.QuietTactic
import Derived.BigQuiet
namespace Go.Proofs.YtodgongemoabiaaDoor
open Go.RowKit

theorem bits_one (m : Nat) (hm : m < 16) : bits .and .i64 (m : Int) 1 = ((m % 2 : Nat) : Int) := by
  have key : ∀ k : Fin 16, bits .and .i64 ((k.val : Nat) : Int) 1 = ((k.val % 2 : Nat) : Int) := by decide +kernel
  exact key ⟨m, hm⟩
namespace Glue
theorem tur_sum (set : Nat) (L : List (List Int)) : sumLen (tur set L) = sumLen L := by
  unfold sumLen
  congr 1
  apply List.ext_getElem?
  intro p
  rw [List.getElem?_map, List.getElem?_map]
  rcases Nat.lt_or_ge p L.length with h | h
  · rw [tur_get (List.getElem?_eq_getElem h), List.getElem?_eq_getElem h]; simp [turRow_len]
  · rw [List.getElem?_eq_none (by rw [tur_len]; exact h), List.getElem?_eq_none h]
end Glue
/-- The bit p of a set, as the walk says it. -/
theorem bit_value (set p : Nat) (hs : set < 16) : bits .and .i64 ((set : Int) / 2 ^ p) 1 = if Glue.bitOf set p then 1 else 0 := by
  have hc : ((set : Int) / 2 ^ p) = ((set / 2 ^ p : Nat) : Int) := by
    rw [Int.natCast_ediv, Int.natCast_pow]; rfl
  have hl : set / 2 ^ p < 16 := Nat.lt_of_le_of_lt (Nat.div_le_self _ _) hs
  rw [hc, bits_one _ hl]
  unfold Glue.bitOf
  by_cases h : set / 2 ^ p % 2 = 1
  · rw [if_pos (by simpa using h)]; omega
  · rw [if_neg (by simpa using h)]; omega

set_option maxRecDepth 10000 in
set_option maxHeartbeats 2000000 in
theorem spec_l3Signs (a : Option Addr) (c : Nat) (L : List (List Int)) (set x : Nat) (zs zx : Int) (hzs : zs = ((set : Nat) : Int)) (hzx : zx = ((x : Nat) : Int)) (w : World) (ha : GridAt w a L) (hw : ∀ p ∈ L, Word.IsW p) (hs : sumLen L ≤ 1000) (hn : L.length ≤ 4) (hset : set < 16) (hx : x < 100) :
    Calls Tryd.prog 76 #[.slice a L.length c, .int .i64 zs, .int .i64 zx] w fun e w' => e = .returned (.int .i64 (Glue.signs L set x)) ∧ Below w.heap.size w w' := by
  subst hzs; subst hzx
  have Ha := Lib.hid ha; have Hw := Lib.hid hw; have Hs := Lib.hid hs
  generalize hv : Glue.signs L set x = V
  have Hv := Lib.hid hv
  clear ha hw hs hv
  go_enter Tryd.func76, Tryd.ntmps76
  go_wp2
  go_loopw [7, 8, 9, 10] (fun sv nv iv _ wr => ∃ i : Nat, i ≤ L.length ∧ iv = .int .i64 i ∧ sv = .int .i64 (Glue.sg (Glue.upTo (Glue.tur set L) i 0) x) ∧ nv = .int .i64 ((((Glue.upTo L i 0).filter fun y => y.natAbs == x).length : Nat) : Int) ∧ Hid (Below w.heap.size w wr)) (fun _ _ iv _ _ => L.length - (intOf iv).toNat)
  case atStart => exact ⟨0, by omega, rfl, by rw [Glue.upTo_zero]; rfl, by rw [Glue.upTo_zero]; rfl, Lib.hid (Below.refl _ _)⟩
  case round =>
    obtain ⟨i, hi, rfl, rfl, rfl, hb⟩ := hrel
    by_cases hlt : i < L.length
    · obtain ⟨r, hr⟩ := get_some hlt
      have Hr := Lib.hid hr
      have hwi := Hw.out r (get_mem hr)
      have hll : r.length ≤ 24 := hwi.2
      have Hwi := Lib.hid hwi
      clear hr hwi
      go_wp2
      go_loopw [7, 8, 10] (fun sv nv jv wr => ∃ j : Nat, j ≤ r.length ∧ jv = .int .i64 j ∧ sv = .int .i64 (Glue.sg (Glue.upTo (Glue.tur set L) i j) x) ∧ nv = .int .i64 ((((Glue.upTo L i j).filter fun y => y.natAbs == x).length : Nat) : Int) ∧ Hid (Below w.heap.size w wr)) (fun _ _ jv _ => r.length - (intOf jv).toNat)
      case atStart => exact ⟨0, by omega, rfl, rfl, rfl, hb⟩
      case round =>
        clear hb
        obtain ⟨j, hj, rfl, rfl, rfl, hb⟩ := hrel
        obtain ⟨b, o, ai, ci, rfl, hbw, hcell, hrow⟩ := (Ha.out.below hb.out).get Hr.out
        by_cases hjt : j < r.length
        · obtain ⟨y, hy⟩ := get_some hjt
          obtain ⟨b', o', rfl, hbw', hcell'⟩ := intCells_get? hrow hy
          obtain ⟨hy0, hy1, hy2⟩ := Hwi.out.1 y (get_mem hy)
          have habs := fun W => spec_l3Abs y W (by omega) (by omega)
          have hst1 := Glue.upTo_step (Glue.tur_get (set := set) Hr.out) (Glue.turRow_get (set := set) (p := i) hy)
          have hst2 := Glue.upTo_step Hr.out hy
          have hsg := Glue.sg_snoc (Glue.upTo (Glue.tur set L) i j) (Glue.flip set i y) x
          rw [← hst1, Glue.flip_abs] at hsg
          have hcn : (((Glue.upTo L i (j + 1)).filter fun y => y.natAbs == x).length : Nat) = ((Glue.upTo L i j).filter fun y => y.natAbs == x).length + if y.natAbs = x then 1 else 0 := by
            rw [hst2, List.filter_append, List.length_append]
            by_cases h : y.natAbs = x <;> simp [h]
          have hbd := Glue.sg_bound (Glue.upTo (Glue.tur set L) i j) x
          have hl1 := Glue.upTo_len j (Glue.tur_get (set := set) Hr.out)
          have hl2 := Glue.upTo_len j Hr.out
          have hl3 := List.length_filter_le (fun y : Int => y.natAbs == x) (Glue.upTo L i j)
          have hl4 : (Glue.tur set L).flatten.length ≤ 1000 := by rw [← sumLen_flat, Glue.tur_sum]; exact Hs.out
          have hl5 : L.flatten.length ≤ 1000 := by rw [← sumLen_flat]; exact Hs.out
          have hbit := bit_value set i hset
          have hfl : Glue.flip set i y = if Glue.bitOf set i then -y else y := rfl
          have hsgn : Glue.sgn (Glue.flip set i y) = if (0 < y) ↔ (Glue.bitOf set i = true) then -1 else 1 := by
            rw [hfl]; unfold Glue.sgn
            cases Glue.bitOf set i
            · simp only [Bool.false_eq_true, if_false, iff_false]
              by_cases h : 0 < y <;> simp [h]
            · simp only [if_true, iff_true]
              by_cases h : 0 < y
              · rw [if_neg (by omega), if_pos h]
              · rw [if_pos (by omega), if_neg h]
          rw [hsgn] at hsg
          generalize Glue.sg (Glue.upTo (Glue.tur set L) i j) x = G at *
          generalize hG' : Glue.sg (Glue.upTo (Glue.tur set L) i (j + 1)) x = G' at *
          generalize ((Glue.upTo L i j).filter fun y => y.natAbs == x).length = C at *
          generalize hC' : ((Glue.upTo L i (j + 1)).filter fun y => y.natAbs == x).length = C' at *
          have hGb0 : -1000 ≤ G := by omega
          have hGb1 : G ≤ 1000 := by omega
          have hCb : C ≤ 1000 := by omega
          generalize y.natAbs = ya at *
          generalize Glue.bitOf set i = bt at *
          have HG' := Lib.hid hG'; have HC' := Lib.hid hC'; have Habs := Lib.hid habs
          have hi64 : (i : Int) ≤ 64 := by omega
          clear hG' hC' habs hst1 hst2 hl1 hl2 hl3 hl4 hl5 hbd hfl hsgn hrow hy hbw hbw'
          by_cases hex : ya = x
          · have heq : ((ya : Int) == (x : Int)) = true := by rw [hex]; simp
            rw [if_pos hex] at hsg hcn
            have Hcn := Lib.hid hcn
            clear hcn hex
            by_cases hp : 0 < y
            · cases bt
              · rw [if_neg (by simp [hp])] at hsg
                rw [if_neg (by simp)] at hbit
                have Hsg := Lib.hid hsg; clear hsg
                go_wp2_with fail
                refine (Habs.out _).mono ?_
                rintro e w1 ⟨rfl, rfl⟩
                go_wp2
                go_roundw
                case rel => exact ⟨j + 1, by omega, by go_num, by rw [HG'.out, Hsg.out] <;> first | rfl | (congr 1), by rw [HC'.out, Hcn.out]; go_num, hb⟩
                case measure => simp [intOf]; omega
              · rw [if_pos (by simp [hp])] at hsg
                rw [if_pos rfl] at hbit
                have Hsg := Lib.hid hsg; clear hsg
                go_wp2_with fail
                refine (Habs.out _).mono ?_
                rintro e w1 ⟨rfl, rfl⟩
                go_wp2
                go_roundw
                case rel => exact ⟨j + 1, by omega, by go_num, by rw [HG'.out, Hsg.out] <;> first | rfl | (congr 1), by rw [HC'.out, Hcn.out]; go_num, hb⟩
                case measure => simp [intOf]; omega
            · have hp' : decide (0 < y) = false := decide_eq_false hp
              cases bt
              · rw [if_pos (by simp [hp])] at hsg
                rw [if_neg (by simp)] at hbit
                have Hsg := Lib.hid hsg; clear hsg
                go_wp2_with fail
                refine (Habs.out _).mono ?_
                rintro e w1 ⟨rfl, rfl⟩
                go_wp2
                go_roundw
                case rel => exact ⟨j + 1, by omega, by go_num, by rw [HG'.out, Hsg.out] <;> first | rfl | (congr 1), by rw [HC'.out, Hcn.out]; go_num, hb⟩
                case measure => simp [intOf]; omega
              · rw [if_neg (by simp [hp])] at hsg
                rw [if_pos rfl] at hbit
                have Hsg := Lib.hid hsg; clear hsg
                go_wp2_with fail
                refine (Habs.out _).mono ?_
                rintro e w1 ⟨rfl, rfl⟩
                go_wp2
                go_roundw
                case rel => exact ⟨j + 1, by omega, by go_num, by rw [HG'.out, Hsg.out] <;> first | rfl | (congr 1), by rw [HC'.out, Hcn.out]; go_num, hb⟩
                case measure => simp [intOf]; omega
          · have heq : ((ya : Int) == (x : Int)) = false := beq_eq_false_iff_ne.2 (by omega)
            rw [if_neg hex] at hsg hcn
            have Hcn := Lib.hid hcn; have Hsg := Lib.hid hsg
            clear hcn hsg hex hbit
            go_wp2_with fail
            refine (Habs.out _).mono ?_
            rintro e w1 ⟨rfl, rfl⟩
            go_wp2
            go_roundw
            case rel => exact ⟨j + 1, by omega, by go_num, by rw [HG'.out, Hsg.out, Int.add_zero], by rw [HC'.out, Hcn.out, Nat.add_zero], hb⟩
            case measure => simp [intOf]; omega
        · obtain rfl : j = r.length := by omega
          have hn1 := Glue.upTo_next (Glue.tur_get (set := set) Hr.out)
          rw [Glue.turRow_len] at hn1
          rw [hn1, Glue.upTo_next Hr.out]
          clear hn1
          go_wp2
          go_roundw
          case rel => exact ⟨i + 1, by omega, by go_num, rfl, rfl, hb⟩
          case measure => simp [intOf]; omega
    · obtain rfl : i = L.length := by omega
      have ht : Glue.upTo (Glue.tur set L) L.length 0 = (Glue.tur set L).flatten := by
        have := Glue.upTo_all (Glue.tur set L)
        rwa [Glue.tur_len] at this
      rw [ht, Glue.upTo_all]
      have hv := Hv.out
      unfold Glue.signs at hv
      have hl3 := List.length_filter_le (fun y : Int => y.natAbs == x) L.flatten
      have hl5 : L.flatten.length ≤ 1000 := by rw [← sumLen_flat]; exact Hs.out
      generalize (L.flatten.filter fun y => y.natAbs == x).length = C at *
      generalize Glue.sg (Glue.tur set L).flatten x = G at *
      clear hl3 hl5 ht
      by_cases hc : C < 2
      · rw [if_pos hc] at hv
        have Hv2 := Lib.hid hv; clear hv
        have hci : (C : Int) < 2 := by omega
        go_wp2
        go_ret
        exact ⟨by rw [← Hv2.out]; rfl, hb.out⟩
      · rw [if_neg hc] at hv
        have Hv2 := Lib.hid hv; clear hv
        have hci : ¬ ((C : Int) < 2) := by omega
        go_wp2
        go_ret
        exact ⟨by rw [← Hv2.out]; rfl, hb.out⟩

set_option maxRecDepth 10000 in
set_option maxHeartbeats 2000000 in
theorem spec_IsTwoSided (a : Option Addr) (c : Nat) (L : List (List Int)) (w : World) (ha : GridAt w a L) (hl : tot L ≤ 1048576) :
    Calls Tryd.prog 44 #[.slice a L.length c] w fun e w' => e = .returned (.bool (Glue.twoB L)) ∧ Below w.heap.size w w' := by
  have hv := Glue.twoB_iff L
  generalize Glue.twoB L = v at *
  have Hv := Lib.hid hv; clear hv
  have hG := spec_IsGluing a c L w ha hl
  have Ha := Lib.hid ha
  by_cases hg : Glue.IsG L
  · rw [decide_eq_true hg] at hG
    have hS := fun set x zs zx h1 h2 W (h : GridAt W a L) hset hx => spec_l3Signs a c L set x zs zx h1 h2 W h hg.w (Nat.le_trans hg.2.2.2.1 (by decide)) hg.2.1 hset hx
    have hl4 := hg.2.1
    have HG := Lib.hid hG; have Hg := Lib.hid hg; have HS := Lib.hid hS
    obtain ⟨M, hM⟩ : ∃ M, M = 2 ^ L.length := ⟨_, rfl⟩
    have hM16 : M ≤ 16 := by rw [hM]; exact Nat.pow_le_pow_right (n := 2) (by omega) hl4
    have hpi : (2 : Int) ^ L.length = ((M : Nat) : Int) := by rw [hM, Int.natCast_pow]; rfl
    have HM := Lib.hid hM
    clear hM
    clear hG hg ha hS
    go_enter Tryd.func44, Tryd.ntmps44
    go_wp2_with fail
    refine HG.out.mono ?_
    rintro e w1 ⟨rfl, hb1⟩
    have Hb1 := Lib.hid hb1
    clear hb1
    go_wp2
    go_loopw [3, 4, 5] (fun sv _ _ wr => ∃ s : Nat, s ≤ M ∧ sv = .int .i64 s ∧ Hid (Below w.heap.size w wr) ∧ Hid (∀ t, t < s → ¬ Glue.Cancels L t)) (fun sv _ _ _ => M - (intOf sv).toNat)
    case atStart => exact ⟨0, by omega, rfl, Hb1, Lib.hid (fun _ h => by omega)⟩
    case round =>
      obtain ⟨s, hs, rfl, hb, hno⟩ := hrel
      by_cases hst : s < M
      · have hsi : (s : Int) < (M : Int) := by omega
        have HS2 := Lib.hid (fun x zs zx h1 h2 W h hx => HS.out s x zs zx h1 h2 W h (by omega) hx)
        go_wp2
        go_loopw [4, 5] (fun fv xv wr => ∃ x : Nat, 1 ≤ x ∧ x ≤ 9 ∧ xv = .int .i64 x ∧ Hid (Below w.heap.size w wr) ∧ ∃ f : Bool, fv = .bool f ∧ Hid (f = true ↔ ∀ y, 1 ≤ y → y < x → Glue.signs L s y = 0)) (fun _ xv _ => 9 - (intOf xv).toNat)
        case atStart => exact ⟨1, by omega, by omega, rfl, hb, true, rfl, Lib.hid ⟨fun _ y h1 h2 => by omega, fun _ => rfl⟩⟩
        case round =>
          clear hb
          obtain ⟨x, hx1, hx9, rfl, hb, f, rfl, hf⟩ := hrel
          by_cases hx8 : x ≤ 8
          · have hxi : (x : Int) ≤ 8 := by omega
            have hc := HS2.out x (s : Int) (x : Int) rfl rfl wr (Ha.out.below hb.out) (by omega)
            have hnext : ∀ f' : Bool, (f' = true ↔ (f = true ∧ Glue.signs L s x = 0)) → (f' = true ↔ ∀ y, 1 ≤ y → y < x + 1 → Glue.signs L s y = 0) := fun f' h => by
              rw [h, hf.out]
              constructor
              · rintro ⟨h1, h2⟩ y hy1 hy2
                rcases Nat.lt_or_ge y x with h3 | h3
                · exact h1 y hy1 h3
                · obtain rfl : y = x := by omega
                  exact h2
              · intro h1
                exact ⟨fun y hy1 hy2 => h1 y hy1 (by omega), h1 x hx1 (by omega)⟩
            generalize Glue.signs L s x = q at *
            have Hc := Lib.hid hc; have Hnext := Lib.hid hnext
            clear hc hnext hf
            cases f
            · have hf' := Lib.hid (Hnext.out false (by simp))
              go_wp2
              go_roundw
              case rel => exact ⟨x + 1, by omega, by omega, by go_num, hb, false, rfl, hf'⟩
              case measure => simp [intOf]; omega
            · go_wp2_with fail
              refine Hc.out.mono ?_
              rintro e w2 ⟨rfl, hb2⟩
              obtain ⟨bq, hbq⟩ : ∃ bq, (q == (0 : Int)) = bq := ⟨_, rfl⟩
              have hf' := Lib.hid (Hnext.out bq (by rw [← hbq]; simp))
              have Hb2 := Lib.hid (hb.out.trans (hb2.mono hb.out.size))
              clear hb2
              go_wp2
              go_roundw
              case rel => exact ⟨x + 1, by omega, by omega, by go_num, Hb2, bq, rfl, hf'⟩
              case measure => simp [intOf]; omega
          · obtain rfl : x = 9 := by omega
            have hcan : f = true ↔ Glue.Cancels L s := by
              rw [hf.out]; unfold Glue.Cancels
              exact ⟨fun h y h1 h8 => h y h1 (by omega), fun h y h1 h2 => h y h1 (by omega)⟩
            have Hcan := Lib.hid hcan
            clear hcan hf
            cases f
            · have hn : Hid (∀ t, t < s + 1 → ¬ Glue.Cancels L t) := Lib.hid (fun t ht => by
                rcases Nat.lt_or_ge t s with h | h
                · exact hno.out t h
                · obtain rfl : t = s := by omega
                  intro hc; have := Hcan.out.2 hc; cases this)
              go_wp2
              go_roundw
              case rel => exact ⟨s + 1, by omega, by go_num, hb, hn⟩
              case measure => simp [intOf]; omega
            · have hvt : v = true := Hv.out.2 ⟨Hg.out, s, by rw [← HM.out]; exact hst, Hcan.out.1 rfl⟩
              have Ht := Lib.hid hvt; clear hvt
              go_wp2
              go_ret
              exact ⟨by rw [Ht.out]; rfl, hb.out⟩
      · have hsi : ¬ ((s : Int) < (M : Int)) := by omega
        have hvf : v = false := by
          rw [Bool.eq_false_iff]
          intro h
          obtain ⟨_, t, ht, hc⟩ := Hv.out.1 h
          exact absurd hc (hno.out t (by rw [← HM.out] at ht; omega))
        have Hf := Lib.hid hvf; clear hvf
        go_wp2
        go_ret
        exact ⟨by rw [Hf.out]; rfl, hb.out⟩
  · rw [decide_eq_false hg] at hG
    have HG := Lib.hid hG; have Hg := Lib.hid hg
    clear hG hg ha
    go_enter Tryd.func44, Tryd.ntmps44
    go_wp2_with fail
    refine HG.out.mono ?_
    rintro e w1 ⟨rfl, hb1⟩
    have hvf : v = false := by
      rw [Bool.eq_false_iff]
      intro h
      exact Hg.out (Hv.out.1 h).1
    have Hf := Lib.hid hvf; clear hvf
    go_wp2
    go_ret
    exact ⟨by rw [Hf.out]; rfl, hb1⟩

theorem sign_cells (s : List Int) (x : Int) (d : Int) (hd : Glue.sgn x = d) : (intCells s).toArray.setIfInBounds x.natAbs (.int .i64 (s.getD x.natAbs 0 + d)) = (intCells (Glue.signPut s x)).toArray := by
  unfold Glue.signPut
  rw [hd]
  simp [intCells, List.map_set]

set_option maxRecDepth 10000 in
set_option maxHeartbeats 2000000 in
theorem impl_sidesCancel (a : Option Addr) (c : Nat) (L : List (List Int)) (set : Nat) (w : World) (ha : GridAt w a L) (hg : Glue.IsG L) (hset : set < 16) :
    Calls Tryd.prog 71 #[.slice a L.length c, .int .i64 (set : Int)] w fun e w' => e = .returned (.bool (Glue.cancelB L set)) ∧ Below w.heap.size w w' := by
  have hv := (Glue.cancelB_iff L set).trans (Glue.cancels_iff hg set)
  generalize Glue.cancelB L set = v at *
  have hU := fun W (h : GridAt W a L) => impl_countLetters a c L W h hg.w (Nat.le_trans hg.2.2.2.1 (by decide)) (Nat.le_trans hg.2.1 (by decide))
  have hix := fun k (hk : k < 9) W => arr_index (Glue.uses L) (Glue.uses_len L) k hk W
  have hl4 := hg.2.1
  have hsm : sumLen L ≤ 20 := hg.2.2.2.1
  have Hv := Lib.hid hv; have HU := Lib.hid hU; have Hix := Lib.hid hix; have Ha := Lib.hid ha; have Hw := Lib.hid hg.w; have Hsm := Lib.hid hsm
  clear hv hU hix ha hg hsm
  generalize hN : w.heap.size = N at *
  have HN := Lib.hid hN
  go_enter Tryd.func71, Tryd.ntmps71
  go_wp2
  go_loopw [6, 7, 8, 10, 15] (fun _ _ _ _ iv wr => ∃ i : Nat, i ≤ L.length ∧ iv = .int .i64 i ∧ Hid (Below N w wr) ∧ Hid (Blk wr N 62 (intCells (Glue.signRow (Glue.upTo (Glue.tur set L) i 0))).toArray)) (fun _ _ _ _ iv _ => L.length - (intOf iv).toNat)
  case atStart =>
    refine ⟨0, by omega, rfl, Lib.hid ?_, Lib.hid ?_⟩
    · have h := (Below.refl w.heap.size w).alloc (Nat.le_refl _) (.cells (intCells (Glue.signRow [])).toArray 62)
      rw [HN.out] at h; exact h
    · have h := Blk.new w 62 (intCells (Glue.signRow [])).toArray
      rw [HN.out] at h; exact h
  case round =>
    obtain ⟨i, hi, rfl, hb, hk⟩ := hrel
    by_cases hlt : i < L.length
    · obtain ⟨r, hr⟩ := get_some hlt
      have Hr := Lib.hid hr
      have hwi := Hw.out r (get_mem hr)
      have hll : r.length ≤ 24 := hwi.2
      have Hwi := Lib.hid hwi
      clear hr hwi
      obtain ⟨b, o, ai, ci, rfl, hbw, hcell0, hrow⟩ := Ha.out.get Hr.out
      have hcell : wr.cell? ⟨b, o + i, none⟩ = some (.slice ai r.length ci) := by rw [hb.out.cell (by rw [← HN.out]; exact hbw)]; exact hcell0
      have Hrow := Lib.hid hrow
      have hbit := bit_value set i hset
      have hi64 : (i : Int) ≤ 64 := by omega
      have hfl : ∀ y, Glue.flip set i y = if Glue.bitOf set i then -y else y := fun _ => rfl
      generalize Glue.bitOf set i = bt at *
      obtain ⟨d, hd⟩ : ∃ d : Int, (1 - 2 * (if bt then 1 else 0)) = d := ⟨_, rfl⟩
      have hdn : ∀ y, Word.Letter y → Glue.sgn (Glue.flip set i y) = if y < 0 then -d else d := fun y hy => by
        rw [hfl, ← hd]
        unfold Glue.sgn
        obtain ⟨h0, _, _⟩ := hy
        cases bt
        · simp only [Bool.false_eq_true, if_false]
          by_cases h : y < 0
          · rw [if_neg (by omega), if_pos h]; rfl
          · rw [if_pos (by omega), if_neg h]; rfl
        · simp only [if_true]
          by_cases h : y < 0
          · rw [if_pos (by omega), if_pos h]; rfl
          · rw [if_neg (by omega), if_neg h]; rfl
      have hd1 : d = 1 ∨ d = -1 := by rw [← hd]; cases bt <;> simp
      have Hdn := Lib.hid hdn; have Hbit := Lib.hid hbit; have Hd := Lib.hid hd
      clear hcell0 hbw hrow hfl hdn hd
      have hbit2 : bits .and .i64 ((set : Int) / 2 ^ i) 1 = if bt then 1 else 0 := Hbit.out
      generalize (if bt then (1 : Int) else 0) = bz at *
      have hbz : 1 - 2 * bz = d := Hd.out
      have hbz0 : 0 ≤ bz ∧ bz ≤ 1 := by omega
      obtain ⟨hbz0, hbz1⟩ := hbz0
      clear Hbit
      go_wp2
      clear hbz hbit2 hbz0 hbz1
      go_loopw [10, 28] (fun _ jv wr => ∃ j : Nat, j ≤ r.length ∧ jv = .int .i64 j ∧ Hid (Below N w wr) ∧ Hid (Blk wr N 62 (intCells (Glue.signRow (Glue.upTo (Glue.tur set L) i j))).toArray)) (fun _ jv _ => r.length - (intOf jv).toNat)
      case atStart => exact ⟨0, by omega, rfl, hb, hk⟩
      case round =>
        clear hb hk
        obtain ⟨j, hj, rfl, hb, hk⟩ := hrel
        by_cases hjt : j < r.length
        · obtain ⟨y, hy⟩ := get_some hjt
          obtain ⟨b', o', rfl, hbw', hcell'⟩ := intCells_get? (Hrow.out.below (by rw [HN.out]; exact hb.out)) hy
          have hLy := Hwi.out.1 y (get_mem hy)
          have hsn := Hdn.out y hLy
          have hst := Glue.upTo_step (Glue.tur_get (set := set) Hr.out) (Glue.turRow_get (set := set) (p := i) hy)
          have hput := sign_cells (Glue.signRow (Glue.upTo (Glue.tur set L) i j)) (Glue.flip set i y) _ hsn
          rw [← Glue.signRow_snoc, ← hst, Glue.flip_abs] at hput
          have hbd := Glue.sg_bound (Glue.upTo (Glue.tur set L) i j) y.natAbs
          have hl1 := Glue.upTo_len j (Glue.tur_get (set := set) Hr.out)
          have hl4 : (Glue.tur set L).flatten.length ≤ 20 := by rw [← sumLen_flat, Glue.tur_sum]; exact Hsm.out
          obtain ⟨hy0, hy1, hy2⟩ := hLy
          have hya : y.natAbs < 9 := by omega
          rw [← Glue.signRow_get _ _ hya] at hbd
          have hcx := ints_cell hk.out (j := y.natAbs) (by rw [Glue.signRow_len]; exact hya)
          have hfz := hk.out.frozen y.natAbs
          generalize (Glue.signRow (Glue.upTo (Glue.tur set L) i j)).getD y.natAbs 0 = s at *
          have hsb0 : -20 ≤ s := by omega
          have hsb1 : s ≤ 20 := by omega
          have habs := fun W => impl_edgeOf y W (by omega) (by omega)
          have Hput := Lib.hid hput; have Habs := Lib.hid habs
          clear hput habs hst hsn hbd hl1 hl4 hbw' hy
          by_cases hneg : y < 0
          · have hp := Hput.out
            rw [if_pos hneg] at hp
            have Hp := Lib.hid hp
            generalize hxa : y.natAbs = xa at *
            have hxb : (xa : Int) < 9 := by omega
            have hxc : (0 : Int) ≤ (xa : Int) := by omega
            clear hp Hput hxa
            rcases hd1 with rfl | rfl
            · go_wp2_with fail
              refine (Habs.out _).mono ?_
              rintro e w1 ⟨rfl, rfl⟩
              go_wp2
              go_roundw
              case rel =>
                refine ⟨j + 1, by omega, by go_num, Lib.hid (hb.out.setCell (show N ≤ N by omega) _), Lib.hid ?_⟩
                have h := hk.out.put xa (.int .i64 (s + -1))
                rw [Hp.out] at h
                exact h
              case measure => simp [intOf]; omega
            · go_wp2_with fail
              refine (Habs.out _).mono ?_
              rintro e w1 ⟨rfl, rfl⟩
              go_wp2
              go_roundw
              case rel =>
                refine ⟨j + 1, by omega, by go_num, Lib.hid (hb.out.setCell (show N ≤ N by omega) _), Lib.hid ?_⟩
                have h := hk.out.put xa (.int .i64 (s + 1))
                rw [show s + 1 = s + -(-1) from rfl, Hp.out] at h
                exact h
              case measure => simp [intOf]; omega
          · have hp := Hput.out
            rw [if_neg hneg] at hp
            obtain ⟨xa, rfl⟩ : ∃ xa : Nat, y = (xa : Int) := ⟨y.natAbs, by omega⟩
            rw [Int.natAbs_natCast] at hp hcx hfz hya
            have Hp := Lib.hid hp
            have hxb : (xa : Int) < 9 := by omega
            have hxc : (0 : Int) ≤ (xa : Int) := by omega
            clear hp Hput Habs
            have hsd : -21 ≤ s + d ∧ s + d ≤ 21 := by omega
            obtain ⟨hsd0, hsd1⟩ := hsd
            go_wp2
            go_roundw
            case rel =>
              refine ⟨j + 1, by omega, by go_num, Lib.hid (hb.out.setCell (show N ≤ N by omega) _), Lib.hid ?_⟩
              have h := hk.out.put xa (.int .i64 (s + d))
              rw [Hp.out] at h
              exact h
            case measure => simp [intOf]; omega
        · obtain rfl : j = r.length := by omega
          have hn1 := Glue.upTo_next (Glue.tur_get (set := set) Hr.out)
          rw [Glue.turRow_len] at hn1
          rw [hn1] at hk
          clear hn1
          go_wp2
          go_roundw
          case rel => exact ⟨i + 1, by omega, by go_num, hb, hk⟩
          case measure => simp [intOf]; omega
    · obtain rfl : i = L.length := by omega
      have ht : Glue.upTo (Glue.tur set L) L.length 0 = (Glue.tur set L).flatten := by
        have := Glue.upTo_all (Glue.tur set L)
        rwa [Glue.tur_len] at this
      rw [ht] at hk
      have hsl := Glue.signRow_len (Glue.tur set L).flatten
      have hv := Hv.out
      unfold Glue.Fails at hv
      generalize Glue.signRow (Glue.tur set L).flatten = SR at *
      have Hv2 := Lib.hid hv; have Hsl := Lib.hid hsl
      clear hv hsl ht
      generalize Glue.uses L = U at *
      go_wp2_with fail
      refine (HU.out wr (Ha.out.below (by rw [HN.out]; exact hb.out))).mono ?_
      rintro e w2 ⟨rfl, hb2⟩
      have Hb2 := Lib.hid (hb.out.trans (hb2.mono (by have := hb.out.size; rw [HN.out] at this; exact this)))
      have Hk2 := Lib.hid (hk.out.below hb2 hk.out.lt)
      clear hb2 hb hk
      go_wp2
      go_loopw [11, 12, 51] (fun _ _ kv w3 => ∃ k : Nat, k ≤ 9 ∧ kv = .int .i64 k ∧ w3 = w2 ∧ Hid (∀ x, x < k → ¬ (U.getD x 0 = 2 ∧ SR.getD x 0 ≠ 0))) (fun _ _ kv _ => 9 - (intOf kv).toNat)
      case atStart => exact ⟨0, by omega, rfl, rfl, Lib.hid (fun _ h => by omega)⟩
      case round =>
        obtain ⟨k, hk9, rfl, rfl, hno⟩ := hrel
        by_cases hkt : k < 9
        · have hix := Hix.out k hkt
          have hcx := ints_cell Hk2.out (j := k) (by rw [Hsl.out]; exact hkt)
          have hbad : U.getD k 0 = 2 → SR.getD k 0 ≠ 0 → v = false := fun h1 h2 => by
            rw [Bool.eq_false_iff]
            intro hh
            exact Hv2.out.1 hh k hkt ⟨h1, h2⟩
          have hnext : ¬ (U.getD k 0 = 2 ∧ SR.getD k 0 ≠ 0) → ∀ x, x < k + 1 → ¬ (U.getD x 0 = 2 ∧ SR.getD x 0 ≠ 0) := fun h x hx => by
            rcases Nat.lt_or_ge x k with h2 | h2
            · exact hno.out x h2
            · obtain rfl : x = k := by omega
              exact h
          have hkc : (k : Int) < 9 := by omega
          have hk0 : (0 : Int) ≤ (k : Int) := by omega
          generalize U.getD k 0 = n at *
          generalize SR.getD k 0 = s at *
          have Hbad := Lib.hid hbad; have Hnext := Lib.hid hnext
          clear hbad hnext hno
          by_cases hn2 : n = 2
          · by_cases hs0 : s = 0
            · subst hn2; subst hs0
              have hnx := Lib.hid (Hnext.out (by simp))
              go_wp2
              go_roundw
              case rel => exact ⟨k + 1, by omega, by go_num, trivial, hnx⟩
              case measure => simp [intOf]; omega
            · subst hn2
              have hvf := Lib.hid (Hbad.out rfl hs0)
              have hsb : (s != 0) = true := by simp [hs0]
              clear hs0
              go_wp2
              go_ret
              exact ⟨by rw [hvf.out]; rfl, Hb2.out⟩
          · have hnx := Lib.hid (Hnext.out (fun h => hn2 h.1))
            have hnb : (n == 2) = false := by simp [hn2]
            clear hn2
            go_wp2
            go_roundw
            case rel => exact ⟨k + 1, by omega, by go_num, trivial, hnx⟩
            case measure => simp [intOf]; omega
        · obtain rfl : k = 9 := by omega
          have hvt := Lib.hid (Hv2.out.2 hno.out)
          go_wp2
          go_ret
          exact ⟨by rw [hvt.out]; rfl, Hb2.out⟩

set_option maxRecDepth 10000 in
set_option maxHeartbeats 2000000 in
theorem impl_IsTwoSided (a : Option Addr) (c : Nat) (L : List (List Int)) (w : World) (ha : GridAt w a L) (hl : tot L ≤ 1048576) :
    Calls Tryd.prog 41 #[.slice a L.length c] w fun e w' => e = .returned (.bool (Glue.twoB L)) ∧ Below w.heap.size w w' := by
  have hv := Glue.twoB_iff L
  generalize Glue.twoB L = v at *
  have Hv := Lib.hid hv; clear hv
  have hG := impl_IsGluing a c L w ha hl
  have Ha := Lib.hid ha
  by_cases hg : Glue.IsG L
  · rw [decide_eq_true hg] at hG
    have hS := fun set W (h : GridAt W a L) hset => impl_sidesCancel a c L set W h hg hset
    have hl4 := hg.2.1
    have HG := Lib.hid hG; have Hg := Lib.hid hg; have HS := Lib.hid hS
    obtain ⟨M, hM⟩ : ∃ M, M = 2 ^ L.length := ⟨_, rfl⟩
    have hM16 : M ≤ 16 := by rw [hM]; exact Nat.pow_le_pow_right (n := 2) (by omega) hl4
    have hpi : (2 : Int) ^ L.length = ((M : Nat) : Int) := by rw [hM, Int.natCast_pow]; rfl
    have HM := Lib.hid hM
    clear hM hG hg ha hS
    go_enter Tryd.func41, Tryd.ntmps41
    go_wp2_with fail
    refine HG.out.mono ?_
    rintro e w1 ⟨rfl, hb1⟩
    have Hb1 := Lib.hid hb1
    clear hb1
    go_wp2
    go_loopw [3, 10] (fun _ sv wr => ∃ s : Nat, s ≤ M ∧ sv = .int .i64 s ∧ Hid (Below w.heap.size w wr) ∧ Hid (∀ t, t < s → ¬ Glue.Cancels L t)) (fun _ sv _ => M - (intOf sv).toNat)
    case atStart => exact ⟨0, by omega, rfl, Hb1, Lib.hid (fun _ h => by omega)⟩
    case round =>
      obtain ⟨s, hs, rfl, hb, hno⟩ := hrel
      by_cases hst : s < M
      · have hsi : (s : Int) < (M : Int) := by omega
        have hc := HS.out s wr (Ha.out.below hb.out) (by omega)
        have hci := Glue.cancelB_iff L s
        generalize Glue.cancelB L s = f at *
        have Hc := Lib.hid hc; have Hci := Lib.hid hci
        clear hc hci
        cases f
        · have hn : Hid (∀ t, t < s + 1 → ¬ Glue.Cancels L t) := Lib.hid (fun t ht => by
            rcases Nat.lt_or_ge t s with h | h
            · exact hno.out t h
            · obtain rfl : t = s := by omega
              intro hc; have := Hci.out.2 hc; cases this)
          go_wp2_with fail
          refine Hc.out.mono ?_
          rintro e w2 ⟨rfl, hb2⟩
          have Hb2 := Lib.hid (hb.out.trans (hb2.mono hb.out.size))
          clear hb2
          go_wp2
          go_roundw
          case rel => exact ⟨s + 1, by omega, by go_num, Hb2, hn⟩
          case measure => simp [intOf]; omega
        · have hvt := Lib.hid (Hv.out.2 ⟨Hg.out, s, by rw [← HM.out]; exact hst, Hci.out.1 rfl⟩)
          go_wp2_with fail
          refine Hc.out.mono ?_
          rintro e w2 ⟨rfl, hb2⟩
          have Hb2 := Lib.hid (hb.out.trans (hb2.mono hb.out.size))
          clear hb2
          go_wp2
          go_ret
          exact ⟨by rw [hvt.out]; rfl, Hb2.out⟩
      · have hsi : ¬ ((s : Int) < (M : Int)) := by omega
        have hvf : v = false := by
          rw [Bool.eq_false_iff]
          intro h
          obtain ⟨_, t, ht, hc⟩ := Hv.out.1 h
          exact absurd hc (hno.out t (by rw [← HM.out] at ht; omega))
        have Hf := Lib.hid hvf; clear hvf
        go_wp2
        go_ret
        exact ⟨by rw [Hf.out]; rfl, hb.out⟩
  · rw [decide_eq_false hg] at hG
    have HG := Lib.hid hG; have Hg := Lib.hid hg
    clear hG hg ha
    have hvf : v = false := by
      rw [Bool.eq_false_iff]
      intro h
      exact Hg.out (Hv.out.1 h).1
    have Hf := Lib.hid hvf; clear hvf
    go_enter Tryd.func41, Tryd.ntmps41
    go_wp2_with fail
    refine HG.out.mono ?_
    rintro e w1 ⟨rfl, hb1⟩
    go_wp2
    go_ret
    exact ⟨by rw [Hf.out]; rfl, hb1⟩
end Go.Proofs.YtodgongemoabiaaDoor
