/-
  The walk of the program's SubdivideEdge.
-/
import Derived.Test.YtjpafacldcnboaaBase
import Derived.Test.YtjpafacldcnboaaSlice
import Derived.Test.YtjpafacldcnboaaInts
import Derived.Test.YtjpafacldcnboaaGrid
import Derived.Test.YtjpafacldcnboaaOwn
import Derived.Test.YtjpafacldcnboaaAppend
import Derived.Test.YtjpafacldcnboaaWord
import Derived.Test.YtjpafacldcnboaaIsWord
import Derived.Test.YtjpafacldcnboaaClass
import Derived.Test.YtjpafacldcnboaaLab
import Derived.Test.YtjpafacldcnboaaTopo
import Derived.Test.YtjpafacldcnboaaMap
import Derived.Test.YtjpafacldcnboaaMapTopo
import Derived.Test.YtjpafacldcnboaaMapTopo2
import Derived.Test.YtjpafacldcnboaaMapA
import Derived.Test.YtjpafacldcnboaaMapB
import Derived.Test.YtjpafacldcnboaaMapC
import Derived.Test.YtjpafacldcnboaaMapG
import Derived.Test.YtjpafacldcnboaaMapI
import Derived.Deep.QuietTactic
import Derived.BigQuiet
namespace Go.Proofs.Ytjpafacldcnboaa
open Go.RowKit

namespace Mp
theorem plus_per {f : Nat → Nat} {n : Nat} (h : Per f n) : Per (plus f n n (n + 1)) (n + 2) := by
  have v : ∀ k, plus f n n (n + 1) k = if k < n then f k else if k = n then n else n + 1 := fun k => rfl
  refine ⟨fun d hd => ?_, fun d e hd he hh => ?_⟩
  · rw [v]; split
    · rename_i h1; have := h.lt d h1; omega
    · split <;> omega
  · rw [v, v] at hh
    by_cases d1 : d < n
    · have := h.lt d d1
      by_cases e1 : e < n
      · rw [if_pos d1, if_pos e1] at hh; exact h.inj d e d1 e1 hh
      · rw [if_pos d1, if_neg e1] at hh
        by_cases e2 : e = n
        · rw [if_pos e2] at hh; omega
        · rw [if_neg e2] at hh; omega
    · rw [if_neg d1] at hh
      by_cases e1 : e < n
      · have := h.lt e e1
        rw [if_pos e1] at hh
        by_cases d2 : d = n
        · rw [if_pos d2] at hh; omega
        · rw [if_neg d2] at hh; omega
      · rw [if_neg e1] at hh
        by_cases d2 : d = n
        · rw [if_pos d2] at hh
          by_cases e2 : e = n
          · omega
          · rw [if_neg e2] at hh; omega
        · rw [if_neg d2] at hh
          by_cases e2 : e = n
          · rw [if_pos e2] at hh; omega
          · omega
/-- A dart that is alone is laid behind another. -/
theorem behind_swp {f : Nat → Nat} {d b : Nat} (h : f d = d) (hb : d ≠ b) (k : Nat) : behind f d b k = swp f d b k := by
  unfold behind upd swp
  by_cases h1 : k = d
  · rw [if_neg (by omega), if_pos h1, if_pos h1]
  · by_cases h2 : k = b
    · rw [if_pos h2, if_neg h1, if_pos h2, h]
    · rw [if_neg h2, if_neg h1, if_neg h1, if_neg h2]
/-- What the program makes: n + 1 behind the dart, the dart taken out, n behind it. -/
theorem sub_way {l : List Int} {d : Nat} (h : IsP l) (hd : d < l.length) : ∃ q, q < l.length + 2 ∧
    behind (plus (at_ l) l.length l.length (l.length + 1)) (l.length + 1) d q = d ∧ (∀ j, j < l.length + 2 → behind (plus (at_ l) l.length l.length (l.length + 1)) (l.length + 1) d j = d → j = q) ∧
    ∀ k, k < l.length + 2 → behind (swp (behind (plus (at_ l) l.length l.length (l.length + 1)) (l.length + 1) d) d q) l.length d k = subF l d k := by
  have hp := per_at h
  have pl := plus_per hp
  have v : ∀ k, plus (at_ l) l.length l.length (l.length + 1) k = if k < l.length then at_ l k else if k = l.length then l.length else l.length + 1 := fun k => rfl
  have e1 : ∀ k, behind (plus (at_ l) l.length l.length (l.length + 1)) (l.length + 1) d k = swp (plus (at_ l) l.length l.length (l.length + 1)) (l.length + 1) d k :=
    behind_swp (by rw [v, if_neg (by omega), if_neg (by omega)]) (by omega)
  have p1 := pl.swp (show l.length + 1 < l.length + 2 by omega) (show d < l.length + 2 by omega)
  obtain ⟨q, hq, hqd⟩ := p1.pre (show d < l.length + 2 by omega)
  -- the values of the map behind the first step
  have g1 : ∀ k, swp (plus (at_ l) l.length l.length (l.length + 1)) (l.length + 1) d k = if k = l.length + 1 then at_ l d else if k = d then l.length + 1 else if k = l.length then l.length else if k < l.length then at_ l k else l.length + 1 := fun k => by
    unfold swp
    by_cases h1 : k = l.length + 1
    · rw [if_pos h1, if_pos h1, v, if_pos hd]
    · rw [if_neg h1, if_neg h1]
      by_cases h2 : k = d
      · rw [if_pos h2, if_pos h2, v, if_neg (by omega), if_neg (by omega)]
      · rw [if_neg h2, if_neg h2, v]
        by_cases h3 : k = l.length
        · rw [if_neg (by omega), if_pos h3, if_pos h3]
        · rw [if_neg h3, if_neg h3]
  refine ⟨q, hq, by rw [e1]; exact hqd, fun j hj hh => ?_, fun k hk => ?_⟩
  · rw [e1] at hh; exact p1.inj _ _ hj hq (by rw [hh, hqd])
  · have hfun : behind (plus (at_ l) l.length l.length (l.length + 1)) (l.length + 1) d = swp (plus (at_ l) l.length l.length (l.length + 1)) (l.length + 1) d := funext e1
    rw [hfun]
    generalize swp (plus (at_ l) l.length l.length (l.length + 1)) (l.length + 1) d = g at *
    have hqn : q ≠ l.length := fun hh => by rw [hh, g1, if_neg (by omega), if_neg (by omega), if_pos rfl] at hqd; omega
    have hqdd : q ≠ d := fun hh => by rw [hh, g1, if_neg (by omega), if_pos rfl] at hqd; omega
    have gd : g d = l.length + 1 := by rw [g1, if_neg (by omega), if_pos rfl]
    have s : ∀ k, swp g d q k = if k = d then d else if k = q then l.length + 1 else g k := fun k => by
      unfold swp
      by_cases h1 : k = d
      · rw [if_pos h1, if_pos h1, hqd]
      · rw [if_neg h1, if_neg h1, gd]
    unfold behind upd
    unfold subF
    by_cases k1 : k = d
    · rw [if_pos k1, if_pos k1]
    · rw [if_neg k1, if_neg k1]
      by_cases k2 : k = l.length
      · rw [if_pos k2, if_pos k2, s, if_pos rfl]
      · rw [if_neg k2, if_neg k2, s, if_neg k1]
        by_cases k3 : k = l.length + 1
        · rw [if_pos k3]
          have gk : g k = at_ l d := by rw [g1, if_pos k3]
          by_cases c : at_ l d = d
          · rw [if_pos c]
            have : k = q := p1.inj _ _ hk hq (by rw [gk, c, hqd])
            rw [if_pos this]
          · rw [if_neg c, if_neg (fun hh => c (by rw [← gk, hh, hqd])), gk]
        · rw [if_neg k3]
          have hkl : k < l.length := by omega
          have gk : g k = at_ l k := by rw [g1, if_neg k3, if_neg k1, if_neg k2, if_pos hkl]
          by_cases c : at_ l k = d
          · rw [if_pos c]
            have : k = q := p1.inj _ _ hk hq (by rw [gk, c, hqd])
            rw [if_pos this]
          · rw [if_neg c, if_neg (fun hh => c (by rw [← gk, hh, hqd])), gk]
end Mp
set_option maxRecDepth 10000 in
set_option maxHeartbeats 2000000 in
theorem impl_SubdivideEdge (a : Option Addr) (c : Nat) (l : List Int) (ve : Int) (w : World) (ha : RowAt w a (intCells l)) (hl : l.length ≤ 1048576) (_ : -9223372036854775808 ≤ ve) (_ : ve ≤ 9223372036854775807) :
    Calls Try.prog 41 #[.slice a l.length c, .int .i64 ve] w fun e w' => Gives2 w (Mp.sub l ve) (decide (Mp.SubOk l ve)) e w' := by
  by_cases hM : Mp.IsM l
  · have hmap := impl_mapOf_yes a c l w ha hM
    have hn := hM.2.1
    have hn2 := hM.1
    have hA := fun p lo W (h : MapAt W lo p (Mp.at_ l) l.length) => impl_hasEdge p lo l.length (Mp.at_ l) ve W h (by omega)
    have hB := fun p lo W (h : MapAt W lo p (Mp.at_ l) l.length) => impl_hasRoom p lo l.length (Mp.at_ l) W h (by omega)
    by_cases h1 : 0 ≤ ve ∧ ve < ((l.length / 2 : Nat) : Int)
    · rw [decide_eq_true h1] at hA
      by_cases h2 : Mp.Room l
      · rw [decide_eq_true (show l.length + 2 ≤ 24 from h2)] at hB
        have hok : Mp.SubOk l ve := ⟨⟨hM, h1⟩, h2⟩
        rw [decide_eq_true hok]
        have hv : Mp.sub l ve = Cls.row (Mp.subF l (2 * ve.toNat + 1)) (l.length + 2) := if_pos hok
        rw [hv]
        obtain ⟨x, rfl⟩ : ∃ x : Nat, ve = ((x : Nat) : Int) := ⟨ve.toNat, by have := h1.1; omega⟩
        simp only [Int.toNat_natCast]
        have hx : 2 * x + 1 < l.length := by have := h1.2; omega
        obtain ⟨q, hq, hqd, hone, hway⟩ := Mp.sub_way hM.2.2.2 hx
        have hw1 : IntKind.i64.wrap (2 * (x : Int)) = 2 * (x : Int) := wrap_small (by omega) (by omega)
        have hw2 : IntKind.i64.wrap (2 * (x : Int) + 1) = 2 * (x : Int) + 1 := wrap_small (by omega) (by omega)
        have hw3 : IntKind.i64.wrap ((l.length : Int) + 1) = (l.length : Int) + 1 := wrap_small (by omega) (by omega)
        have hadd := fun p lo W (h : MapAt W lo p (Mp.at_ l) l.length) (hlo : lo ≤ W.heap.size) => impl_addMates p lo l.length (Mp.at_ l) W h hlo (by omega)
        have hp1 := fun p lo W (h : MapAt W lo p (Mp.plus (Mp.at_ l) l.length l.length (l.length + 1)) (l.length + 2)) (hlo : lo ≤ W.heap.size) => impl_putBehind p lo (l.length + 2) _ (l.length + 1) (2 * x + 1) ((l.length : Int) + 1) (2 * (x : Int) + 1) (by omega) (by omega) W h hlo (by omega) (by omega) (by omega)
        have ht := fun p lo W (h : MapAt W lo p (Mp.behind (Mp.plus (Mp.at_ l) l.length l.length (l.length + 1)) (l.length + 1) (2 * x + 1)) (l.length + 2)) (hlo : lo ≤ W.heap.size) => impl_takeOut p lo (l.length + 2) _ (2 * x + 1) q (2 * (x : Int) + 1) (by omega) W h hlo (by omega) hq hqd hone (by omega)
        have hp2 := fun p lo W (h : MapAt W lo p (Mp.swp (Mp.behind (Mp.plus (Mp.at_ l) l.length l.length (l.length + 1)) (l.length + 1) (2 * x + 1)) (2 * x + 1) q) (l.length + 2)) (hlo : lo ≤ W.heap.size) => impl_putBehind p lo (l.length + 2) _ l.length (2 * x + 1) (l.length : Int) (2 * (x : Int) + 1) rfl (by omega) W h hlo (by omega) (by omega) (by omega)
        have hfin := fun W lo p (h : MapAt W lo p (Mp.behind (Mp.swp (Mp.behind (Mp.plus (Mp.at_ l) l.length l.length (l.length + 1)) (l.length + 1) (2 * x + 1)) (2 * x + 1) q) l.length (2 * x + 1)) (l.length + 2)) => h.congr hway
        clear hqd hone hway
        generalize Mp.subF l (2 * x + 1) = ff at *
        generalize Mp.behind (Mp.swp (Mp.behind (Mp.plus (Mp.at_ l) l.length l.length (l.length + 1)) (l.length + 1) (2 * x + 1)) (2 * x + 1) q) l.length (2 * x + 1) = f4 at *
        generalize Mp.swp (Mp.behind (Mp.plus (Mp.at_ l) l.length l.length (l.length + 1)) (l.length + 1) (2 * x + 1)) (2 * x + 1) q = f3 at *
        generalize Mp.behind (Mp.plus (Mp.at_ l) l.length l.length (l.length + 1)) (l.length + 1) (2 * x + 1) = f2 at *
        generalize Mp.plus (Mp.at_ l) l.length l.length (l.length + 1) = f1 at *
        generalize ((l.length / 2 : Nat) : Int) = m2 at *
        have Hmap := Lib.hid hmap; have HA := Lib.hid hA; have HB := Lib.hid hB; have Hadd := Lib.hid hadd; have Hp1 := Lib.hid hp1; have Ht := Lib.hid ht; have Hp2 := Lib.hid hp2; have Hfin := Lib.hid hfin
        clear hmap hA hB ha hok hM h2 h1 hadd hp1 ht hp2 hfin hv
        go_enter Try.func41, Try.ntmps41
        go_wp2_with fail
        refine Hmap.out.mono ?_
        rintro e w1 ⟨⟨p, rfl, hm⟩, hb⟩
        have Hb := Lib.hid hb; have Hm := Lib.hid hm
        clear hb hm
        go_wp2_with fail
        refine (HA.out _ _ _ Hm.out).mono ?_
        rintro e w2 ⟨rfl, hw⟩
        rw [hw]; clear hw
        go_wp2_with fail
        refine (HB.out _ _ _ Hm.out).mono ?_
        rintro e w2 ⟨rfl, hw⟩
        rw [hw]; clear hw
        go_wp2_with fail
        refine (Hadd.out _ _ _ Hm.out Hb.out.size).mono ?_
        rintro e w2 ⟨rfl, hm, hb⟩
        have Hm2 := Lib.hid hm; have Hb2 := Lib.hid (Hb.out.trans hb)
        clear hm hb
        go_wp2_with fail
        refine (Hp1.out _ _ _ Hm2.out Hb2.out.size).mono ?_
        rintro e w2 ⟨rfl, hm, hb⟩
        have Hm3 := Lib.hid hm; have Hb3 := Lib.hid (Hb2.out.trans hb)
        clear hm hb
        go_wp2_with fail
        refine (Ht.out _ _ _ Hm3.out Hb3.out.size).mono ?_
        rintro e w2 ⟨rfl, hm, hb⟩
        have Hm4 := Lib.hid hm; have Hb4 := Lib.hid (Hb3.out.trans hb)
        clear hm hb
        go_wp2_with fail
        refine (Hp2.out _ _ _ Hm4.out Hb4.out.size).mono ?_
        rintro e w2 ⟨rfl, hm, hb⟩
        have Hm5 := Lib.hid hm; have Hb5 := Lib.hid (Hb4.out.trans hb)
        clear hm hb
        obtain ⟨g, cap, hcell, _, hcap, hcm, _, _, _, _, _, _, hrow⟩ := (Hfin.out _ _ _ Hm5.out).open
        have Hrow := Lib.hid hrow
        clear hrow
        go_wp2
        go_ret2
        exact (own_gives Hrow.out (Cls.row_len _ _) Hb5.out).with
      · rw [decide_eq_false (show ¬ l.length + 2 ≤ 24 from h2)] at hB
        have hok : ¬ Mp.SubOk l ve := fun h => h2 h.2
        rw [decide_eq_false hok, show Mp.sub l ve = [] from if_neg hok]
        generalize ((l.length / 2 : Nat) : Int) = m2 at *
        have Hmap := Lib.hid hmap; have HA := Lib.hid hA; have HB := Lib.hid hB
        clear hmap hA hB ha hok hM h1 h2
        go_enter Try.func41, Try.ntmps41
        go_wp2_with fail
        refine Hmap.out.mono ?_
        rintro e w1 ⟨⟨p, rfl, hm⟩, hb⟩
        have Hb := Lib.hid hb; have Hm := Lib.hid hm
        clear hb hm
        go_wp2_with fail
        refine (HA.out _ _ _ Hm.out).mono ?_
        rintro e w2 ⟨rfl, hw⟩
        rw [hw]; clear hw
        go_wp2_with fail
        refine (HB.out _ _ _ Hm.out).mono ?_
        rintro e w2 ⟨rfl, hw⟩
        rw [hw]; clear hw
        go_wp2
        go_ret2
        exact Gives2.none Hb.out
    · rw [decide_eq_false h1] at hA
      have hok : ¬ Mp.SubOk l ve := fun h => h1 h.1.2
      rw [decide_eq_false hok, show Mp.sub l ve = [] from if_neg hok]
      have Hmap := Lib.hid hmap; have HA := Lib.hid hA
      clear hmap hA hB ha hok hM h1
      go_enter Try.func41, Try.ntmps41
      go_wp2_with fail
      refine Hmap.out.mono ?_
      rintro e w1 ⟨⟨p, rfl, hm⟩, hb⟩
      have Hb := Lib.hid hb; have Hm := Lib.hid hm
      clear hb hm
      go_wp2_with fail
      refine (HA.out _ _ _ Hm.out).mono ?_
      rintro e w2 ⟨rfl, hw⟩
      rw [hw]; clear hw
      go_wp2
      go_ret2
      exact Gives2.none Hb.out
  · have hc := impl_mapOf_no a c l w ha hl hM
    have hok : ¬ Mp.SubOk l ve := fun h => hM h.1.1
    rw [decide_eq_false hok, show Mp.sub l ve = [] from if_neg hok]
    have Hc := Lib.hid hc
    clear hc hM ha hok
    go_enter Try.func41, Try.ntmps41
    go_wp2_with fail
    refine Hc.out.mono ?_
    rintro e w1 ⟨rfl, hb⟩
    have Hb := Lib.hid hb; clear hb
    go_wp2
    go_ret2
    exact Gives2.none Hb.out
end Go.Proofs.Ytjpafacldcnboaa
