/-
  The walks of the program's BraidPassport, exchangeOfMates and MapPassport.
-/
import Derived.Test.YtpebgompfgkljaaBase
import Derived.Test.YtpebgompfgkljaaSlice
import Derived.Test.YtpebgompfgkljaaIntRow
import Derived.Test.YtpebgompfgkljaaInts
import Derived.Test.YtpebgompfgkljaaOwn
import Derived.Test.YtpebgompfgkljaaAppend
import Derived.Test.YtpebgompfgkljaaWord
import Derived.Test.YtpebgompfgkljaaGrid
import Derived.Test.YtpebgompfgkljaaGridWalk
import Derived.Test.YtpebgompfgkljaaGridRows
import Derived.Test.YtpebgompfgkljaaClass
import Derived.Test.YtpebgompfgkljaaLab
import Derived.Test.YtpebgompfgkljaaMap
import Derived.Test.YtpebgompfgkljaaMapA
import Derived.Test.YtpebgompfgkljaaMoveA
import Derived.Test.YtpebgompfgkljaaPermInv
import Derived.Test.YtpebgompfgkljaaCov
import Derived.Test.YtpebgompfgkljaaCovA
import Derived.Test.YtpebgompfgkljaaCovB
import Derived.Test.YtpebgompfgkljaaBrA
import Derived.Test.YtpebgompfgkljaaBrC
import Derived.Deep.QuietTactic
import Derived.BigQuiet
import Derived.StillTailTactics
namespace Go.Proofs.Ytpebgompfgkljaa
open Go.RowKit

theorem Br.braid_of {L : List (List Int)} {k : Nat} {p q : List Int} (h : Br.BraidOk L (k : Int)) (hp : L[k]? = some p) (hq : L[k + 1]? = some q) : Br.braid L (k : Int) = (L.set k (Br.conj p q)).set (k + 1) p := by
  unfold Br.braid
  rw [if_pos h, Int.toNat_natCast]
  unfold Br.braided
  rw [List.getD_eq_getElem?_getD, List.getD_eq_getElem?_getD, hp, hq]; rfl
theorem Br.braid_not {L : List (List Int)} {k : Int} (h : ¬ Br.BraidOk L k) : Br.braid L k = [] := if_neg h
theorem Br.conj_alike {n : Nat} {p q : List Int} (hp : p.length = n ∧ Mp.IsP p) (hq : q.length = n ∧ Mp.IsP q) : Br.Alike n [p, q, Mp.mirror p] := fun r hr => by
  simp only [List.mem_cons, List.not_mem_nil, or_false] at hr
  rcases hr with rfl | rfl | rfl
  · exact hp
  · exact hq
  · exact ⟨by rw [Mp.mirror_len]; exact hp.1, Cv.mirror_isP hp.2⟩
set_option maxRecDepth 10000 in
set_option maxHeartbeats 2000000 in
theorem impl_BraidPassport (a : Option Addr) (c : Nat) (L : List (List Int)) (k : Int) (w : World) (ha : GridAt w a L) (hL : ∀ p ∈ L, p.length ≤ 1048576) (hn : L.length ≤ 1048576) (hk0 : -9223372036854775808 ≤ k) (hk1 : k ≤ 9223372036854775807) :
    Calls Try.prog 62 #[.slice a L.length c, .int .i64 k] w fun e w' => GivesRows2 w (Br.braid L k) (decide (Br.BraidOk L k)) e w' := by
  have hcP := impl_IsPassport a c L w ha hL hn
  have e2 : IntKind.i64.wrap ((L.length : Int) - 2) = (L.length : Int) - 2 := wrap_small (by omega) (by omega)
  by_cases hP : Br.Pass L
  · rw [decide_eq_true hP] at hcP
    by_cases h0 : 0 ≤ k
    · by_cases h1 : k ≤ (L.length : Int) - 2
      · obtain ⟨K, rfl⟩ : ∃ K : Nat, k = (K : Int) := ⟨k.toNat, by omega⟩
        have hok : Br.BraidOk L (K : Int) := ⟨hP, h0, h1⟩
        obtain ⟨p, hp⟩ := get_some (show K < L.length by omega)
        obtain ⟨q, hq⟩ := get_some (show K + 1 < L.length by omega)
        rw [Br.braid_of hok hp hq, decide_eq_true hok]
        have hpm := hP.2.1.1 p (get_mem hp)
        have hqm := hP.2.1.1 q (get_mem hq)
        have hd1 := hP.2.1.2.2.2.1
        have hd5 := hP.2.1.2.2.2.2
        have h5 := hP.1
        have hC := fun W (h : Below w.heap.size w W) => impl_copyPermutations a c L W (ha.below h) (Br.perms_tot hP.2.1)
        have hI := fun b cc W (h : RowAt W b (intCells p)) => impl_inverseOf b cc p W h hpm.2 (by omega) (by omega)
        have hR := fun ga W (h : GridAt W ga [p, q, Mp.mirror p]) => impl_productOf ga 3 (Cv.deg L) [p, q, Mp.mirror p] W h (Br.conj_alike hpm hqm) (by simp) (by simp) (by omega)
        rw [hpm.1] at hI
        rw [show [p, q, Mp.mirror p].length = 3 from rfl] at hR
        have hcj : ∀ W g, Lab W g (Br.mul [p, q, Mp.mirror p]) (Cv.deg L) → RowIn W g (g + 1) 3 (some ⟨g, 0, none⟩) (intCells (Br.conj p q)) := fun W g h => by
          rw [Br.conj_prod, hpm.1]
          obtain ⟨all, h1, h2⟩ := h
          refine Or.inr ⟨g, 0, all, rfl, Nat.le_refl _, Nat.lt_succ_self _, h1, fun i v hv => ?_⟩
          have hi : i < Cv.deg L := by
            have := (List.getElem?_eq_some_iff.1 hv).1
            rwa [intCells_len, Br.prod_len] at this
          rw [Nat.zero_add, h2 i hi]
          rw [intCells_get (by rw [Br.prod_len]; exact hi)] at hv
          have hr : (Br.prod [p, q, Mp.mirror p] (Cv.deg L))[i]'(by rw [Br.prod_len]; exact hi) = ((Br.mul [p, q, Mp.mirror p] i : Nat) : Int) := by simp [Br.prod, Cls.row]
          rw [hr] at hv
          exact hv
        have hxl : (Br.conj p q).length = Cv.deg L := by rw [Br.conj_len]; exact hpm.1
        have hml : (Mp.mirror p).length = Cv.deg L := by rw [Mp.mirror_len]; exact hpm.1
        have hpl := hpm.1
        have hql := hqm.1
        generalize Br.mul [p, q, Mp.mirror p] = mu at *
        generalize Br.conj p q = X at *
        generalize Mp.mirror p = pi at *
        generalize Cv.deg L = n at *
        have e3 : IntKind.i64.wrap ((K : Int) + 1) = ((K + 1 : Nat) : Int) := by rw [wrap_small (by omega) (by omega)]; omega
        have t1 : decide ((K : Int) < 0) = false := decide_eq_false (by omega)
        have t2 : decide ((L.length : Int) - 2 < (K : Int)) = false := decide_eq_false (by omega)
        have k0 : (0 : Int) ≤ (K : Int) := by omega
        have k1 : (K : Int) < (L.length : Int) := by omega
        have k2 : (0 : Int) ≤ (K : Int) + 1 := by omega
        have k3 : (K : Int) + 1 < (L.length : Int) := by omega
        have HcP := Lib.hid hcP; have HC := Lib.hid hC; have HI := Lib.hid hI; have HR := Lib.hid hR; have Hcj := Lib.hid hcj; have Hxl := Lib.hid hxl; have Hml := Lib.hid hml; have Hpl := Lib.hid hpl; have Hql := Lib.hid hql; have Hp := Lib.hid hp; have Hq := Lib.hid hq
        clear hcP hC hI hR hcj hP ha hL hok hp hq hpm hqm hxl hml hpl hql h0 h1
        go_enter Try.func62, Try.ntmps62
        go_wp2_with fail
        refine HcP.out.mono ?_
        rintro e w1 ⟨rfl, hb1⟩
        have Hb1 := Lib.hid hb1; clear hb1
        go_wp2_with fail
        refine (HC.out w1 Hb1.out).mono ?_
        rintro e w2 ⟨rfl, hh2, hb2⟩
        obtain ⟨hs, hsl, hh, hap⟩ := hh2.hold
        have Hb2 := Lib.hid (Hb1.out.trans (hb2.mono Hb1.out.size)); have Hb12 := Lib.hid hb2
        have Hhs := Lib.hid hsl; have Hh := Lib.hid hh; have Hap := Lib.hid hap
        clear hh2 hsl hh hap hb2
        obtain ⟨x, hx, hxe⟩ : ∃ x, hs[K]? = some x ∧ x.l = p := by
          have h := Hp.out
          rw [← Hhs.out, List.getElem?_map] at h
          cases he : hs[K]? with
          | none => rw [he] at h; cases h
          | some x => rw [he] at h; exact ⟨x, rfl, Option.some.inj h⟩
        obtain ⟨y, hy, hye⟩ : ∃ y, hs[K + 1]? = some y ∧ y.l = q := by
          have h := Hq.out
          rw [← Hhs.out, List.getElem?_map] at h
          cases he : hs[K + 1]? with
          | none => rw [he] at h; cases h
          | some x => rw [he] at h; exact ⟨x, rfl, Option.some.inj h⟩
        have c1 := Hh.out.cell hx
        have c2 := Hh.out.cell hy
        rw [hxe, Hpl.out] at c1
        rw [hye, Hql.out] at c2
        have Hx := Lib.hid hx; have Hy1 := Lib.hid hy; have Hxe := Lib.hid hxe; have Hye := Lib.hid hye
        have Hrx := Lib.hid (show RowIn w2 w1.heap.size w2.heap.size 3 x.a (intCells p) from by rw [← hxe]; exact Hh.out.2 x (get_mem hx))
        have Hry := Lib.hid (show RowAt w2 y.a (intCells q) from by rw [← hye]; exact (Hh.out.2 y (get_mem hy)).row)
        clear hx hxe hy hye
        go_wp2
        go_quiet (fail)
        go_wp2_with fail
        refine (HI.out x.a x.c _ (Hrx.out.row.below (below_drewN (Below.refl _ _) _))).mono ?_
        rintro e w3 ⟨ra, rc, rfl, hlc, _, hf3, hb3⟩
        have Hb3 := Lib.hid (show Below w2.heap.size w2 w3 from (below_drewN (Below.refl _ _) _).trans hb3)
        have Hf3 := Lib.hid hf3.row
        rw [Hml.out]
        clear hlc hf3 hb3
        have Hg3 := Lib.hid (grid_lit3 (c1 := x.c) (c2 := y.c) (c3 := rc) (Hrx.out.row.below Hb3.out) (Hry.out.below Hb3.out) Hf3.out Hpl.out Hql.out Hml.out)
        go_wp2_with fail
        refine (HR.out _ _ Hg3.out).mono ?_
        rintro e w4 ⟨rfl, hl4, hb4⟩
        have Hr4 := Lib.hid (Hcj.out _ _ hl4)
        have hl4' := hl4.lt
        have hsz3 : (w3.alloc (.cells #[.slice x.a n x.c, .slice y.a n y.c, .slice ra n rc] 42)).heap.size = w3.heap.size + 1 := by simp
        have Hb4 := Lib.hid (show Below w2.heap.size w2 w4 from (Hb3.out.alloc Hb3.out.size _).trans (hb4.mono (by have := Hb3.out.size; omega)))
        obtain ⟨G, hG⟩ : ∃ G, (w3.alloc (.cells #[.slice x.a n x.c, .slice y.a n y.c, .slice ra n rc] 42)).heap.size = G := ⟨_, rfl⟩
        have hG2 : w2.heap.size ≤ G := by have := Hb3.out.size; omega
        rw [hG] at Hr4 hl4'
        rw [hG]
        clear hl4 hb4 hG hsz3 Hg3 Hf3
        have Hh4 := Lib.hid (Hh.out.below Hb4.out)
        have hfz4 := Hh4.out.frozen K
        have c4 := Hh4.out.cell Hx.out
        have hh5 := Hh4.out.set (p := K) (x := ⟨some ⟨G, 0, none⟩, n, X⟩) (Hr4.out.mono (by have := Hb12.out.size; omega) hl4')
        simp only [Hxl.out] at hh5
        have hrx5 := Hh4.out.far (p := K) (v := .slice (some ⟨G, 0, none⟩) n n) ((Hrx.out.below Hb4.out).mono (Nat.le_refl _) Hb4.out.size)
        have hy5 : (hs.set K ⟨some ⟨G, 0, none⟩, n, X⟩)[K + 1]? = some y := by
          rw [List.getElem?_set_ne (by omega)]
          exact Hy1.out
        have c5 := hh5.cell hy5
        have hfz5 := hh5.frozen (K + 1)
        have hh6 := hh5.set (p := K + 1) (x := x) (by
          rw [Hxe.out]
          refine hrx5.mono (Nat.le_refl _) ?_
          simp [World.setCell])
        rw [Hxe.out, Hpl.out] at hh6
        have hap6 := Apts.braid (x := ⟨some ⟨G, 0, none⟩, n, X⟩) Hap.out Hx.out (by have h := congrArg List.length Hhs.out; rw [List.length_map] at h; omega) (fun z hz => apart_new (Hh.out.2 z hz) (Hr4.out.mono hG2 (Nat.le_refl _))) (by show X.length ≤ n; rw [Hxl.out]; exact Nat.le_refl _)
        have hh7 := hh6.held hap6
        rw [List.map_set, List.map_set, Hhs.out, Hxe.out] at hh7
        have hb7 := ((Hb2.out.trans (Hb4.out.mono Hb2.out.size)).setCell (p := ⟨w1.heap.size, K, none⟩) Hb1.out.size (.slice (some ⟨G, 0, none⟩) n n)).setCell (p := ⟨w1.heap.size, K + 1, none⟩) Hb1.out.size (.slice x.a n x.c)
        have Hh7 := Lib.hid hh7; have Hb7 := Lib.hid hb7
        clear hh5 hrx5 hy5 hh6 hap6 hh7 hb7
        go_wp2
        go_ret2
        obtain ⟨ga, gc, he, hgc, hgm, hg⟩ := Hh7.out.done
        have hls : ((L.set K X).set (K + 1) p).length = L.length := by simp
        rw [hls] at he hgc
        cases he
        exact ⟨_, _, by rw [hls]; rfl, by rw [hls]; exact hgc, hgm, hg.mono Hb1.out.size (Nat.le_refl _), Hb7.out⟩
      · have hno : ¬ Br.BraidOk L k := fun h => h1 h.2.2
        rw [Br.braid_not hno, decide_eq_false hno]
        have t1 : decide (k < 0) = false := decide_eq_false (by omega)
        have t2 : decide ((L.length : Int) - 2 < k) = true := decide_eq_true (by omega)
        have HcP := Lib.hid hcP
        clear hcP hP ha hL hno h0 h1
        go_enter Try.func62, Try.ntmps62
        go_wp2_with fail
        refine HcP.out.mono ?_
        rintro e w1 ⟨rfl, hb1⟩
        have Hb1 := Lib.hid hb1; clear hb1
        go_wp2
        go_ret2
        exact GivesRows2.none Hb1.out (by unfold maxLen; omega)
    · have hno : ¬ Br.BraidOk L k := fun h => h0 h.2.1
      rw [Br.braid_not hno, decide_eq_false hno]
      have t1 : decide (k < 0) = true := decide_eq_true (by omega)
      have HcP := Lib.hid hcP
      clear hcP hP ha hL hno h0
      go_enter Try.func62, Try.ntmps62
      go_wp2_with fail
      refine HcP.out.mono ?_
      rintro e w1 ⟨rfl, hb1⟩
      have Hb1 := Lib.hid hb1; clear hb1
      go_wp2
      go_ret2
      exact GivesRows2.none Hb1.out (by unfold maxLen; omega)
  · have hno : ¬ Br.BraidOk L k := fun h => hP h.1
    rw [decide_eq_false hP] at hcP
    rw [Br.braid_not hno, decide_eq_false hno]
    have HcP := Lib.hid hcP
    clear hcP hP ha hL hno
    go_enter Try.func62, Try.ntmps62
    go_wp2_with fail
    refine HcP.out.mono ?_
    rintro e w1 ⟨rfl, hb1⟩
    have Hb1 := Lib.hid hb1; clear hb1
    go_wp2
    go_ret2
    exact GivesRows2.none Hb1.out (by unfold maxLen; omega)
set_option maxRecDepth 10000 in
set_option maxHeartbeats 1000000 in
theorem impl_exchangeOfMates (n : Nat) (w : World) (hn : n ≤ 60) :
    Calls Try.prog 136 #[.int .i64 (n : Int)] w fun e w' => Gives w (Br.mates n) e w' := by
  have hmk := mk_zerosP n (by omega)
  have hst := Lab.of_blk (Blk.new w 3 (intCells (Cls.row (fun _ => 0) n)).toArray)
  have hb0 := (Below.refl w.heap.size w).alloc (Nat.le_refl _) (.cells (intCells (Cls.row (fun _ => 0) n)).toArray 3)
  have hgv := fun w' (h : Lab w' w.heap.size (fun k => if k < n then Mp.mate k else 0) n) (hb : Below w.heap.size w w') => lab_givesP (h.congr (v := Mp.mate) fun k hk => by rw [if_pos hk]) (Nat.le_refl _) (by unfold maxLen; omega) hb
  generalize hN : w.heap.size = N at *
  have HN := Lib.hid hN
  have Hst := Lib.hid hst; have Hb0 := Lib.hid hb0; have Hgv := Lib.hid hgv
  clear hst hb0 hgv
  go_enter Try.func136, Try.ntmps136
  go_wp2
  go_loopw [4, 9] (fun _ iv wr => ∃ i : Nat, i ≤ n ∧ iv = .int .i64 i ∧ Hid (Below N w wr) ∧ Hid (Lab wr N (fun k => if k < i then Mp.mate k else 0) n)) (fun _ iv _ => n - (intOf iv).toNat)
  case atStart => exact ⟨0, by omega, rfl, Hb0, Lib.hid (Hst.out.congr fun k _ => by simp)⟩
  case round =>
    obtain ⟨i, hi, rfl, hb, hk⟩ := hrel
    by_cases hlt : i < n
    · have hm := fun W => impl_mateOf i _ rfl W (by omega)
      have hdst := hk.out.cell hlt
      have hfz := hk.out.frozen i
      have hput := (hk.out.put (i := i) (b := Mp.mate i) hlt).congr (v := fun k => if k < i + 1 then Mp.mate k else 0) fun k _ => by
        by_cases e : k = i
        · subst e; rw [if_pos rfl, if_pos (by omega)]
        · rw [if_neg e]
          by_cases e2 : k < i
          · rw [if_pos e2, if_pos (by omega)]
          · rw [if_neg e2, if_neg (by omega)]
      have hset := hb.out.setCell (p := ⟨N, i, none⟩) (Nat.le_refl _) (.int .i64 ((Mp.mate i : Nat) : Int))
      have Hput := Lib.hid hput; have Hset := Lib.hid hset; have Hm := Lib.hid hm
      clear hput hset hm
      generalize Mp.mate i = m at *
      have j0 : (0 : Int) ≤ (i : Int) := by omega
      have j1 : (i : Int) < (n : Int) := by omega
      go_wp2_with fail
      refine (Hm.out _).mono ?_
      rintro e w1 ⟨rfl, hw1⟩
      rw [hw1]; clear hw1 w1
      go_wp2
      go_roundw
      case rel => exact ⟨i + 1, by omega, by go_num, Hset, Hput⟩
      case measure => simp [intOf]; omega
    · obtain rfl : i = n := by omega
      go_wp2
      go_ret
      exact Hgv.out _ hk.out hb.out
theorem Br.map_of {m : List Int} (h : Br.MapOk m) : Br.mapPass m = Br.closed [m, Br.mates m.length] := if_pos h
theorem Br.map_not {m : List Int} (h : ¬ Br.MapOk m) : Br.mapPass m = [] := if_neg h
theorem Br.map_closed {m : List Int} (h : Mp.IsM m) : Br.closed [m, Br.mates m.length] = Br.mapPass m ∧ decide (Br.CloseOk [m, Br.mates m.length]) = decide (Br.MapOk m) := by
  have h1 := Br.map_ok h
  by_cases h5 : m.length ≤ 5
  · exact ⟨(Br.map_of ⟨h, h5⟩).symm, decide_eq_decide.2 ⟨fun _ => ⟨h, h5⟩, fun _ => h1.2 h5⟩⟩
  · refine ⟨?_, decide_eq_decide.2 ⟨fun hc => absurd (h1.1 hc) h5, fun hm => absurd hm.2 h5⟩⟩
    rw [Br.map_not fun hm => h5 hm.2]
    unfold Br.closed
    rw [if_neg fun hc => h5 (h1.1 hc)]
set_option maxRecDepth 10000 in
set_option maxHeartbeats 1000000 in
theorem impl_MapPassport (a : Option Addr) (c : Nat) (m : List Int) (w : World) (ha : RowAt w a (intCells m)) (hl : m.length ≤ 1048576) :
    Calls Try.prog 65 #[.slice a m.length c] w fun e w' => GivesRows2 w (Br.mapPass m) (decide (Br.MapOk m)) e w' := by
  have hM := impl_IsMap a c m w ha hl
  by_cases hm : Mp.IsM m
  · rw [decide_eq_true hm] at hM
    rw [← (Br.map_closed hm).1, ← (Br.map_closed hm).2]
    have h24 := hm.2.1
    have hX := fun W => impl_exchangeOfMates m.length W (by omega)
    have hC := fun ga W (h : GridAt W ga [m, Br.mates m.length]) => impl_CloseUp ga 2 [m, Br.mates m.length] W h (fun p hp => by
      simp only [List.mem_cons, List.not_mem_nil, or_false] at hp
      rcases hp with rfl | rfl
      · exact hl
      · rw [Br.mates_len]; exact hl) (by simp)
    rw [show [m, Br.mates m.length].length = 2 from rfl] at hC
    have hml := Br.mates_len m.length
    generalize decide (Br.CloseOk [m, Br.mates m.length]) = B at *
    generalize Br.closed [m, Br.mates m.length] = Z at *
    generalize Br.mates m.length = M at *
    have HM := Lib.hid hM; have HX := Lib.hid hX; have HC := Lib.hid hC; have Hml := Lib.hid hml; have Ha := Lib.hid ha
    clear hM hX hC hml ha hm
    go_enter Try.func65, Try.ntmps65
    go_wp2_with fail
    refine HM.out.mono ?_
    rintro e w1 ⟨rfl, hb1⟩
    have Hb1 := Lib.hid hb1; clear hb1
    go_wp2_with fail
    refine (HX.out w1).mono ?_
    rintro e w2 ⟨ra, rc, rfl, _, _, hf2, hb2⟩
    rw [Hml.out]
    have Hb2 := Lib.hid (Hb1.out.trans (hb2.mono Hb1.out.size)); have Hf2 := Lib.hid hf2.row
    clear hf2 hb2
    have Hg := Lib.hid (grid_lit2 (c1 := c) (c2 := rc) (Ha.out.below Hb2.out) Hf2.out rfl Hml.out)
    have Hal := Lib.hid (Hb2.out.alloc Hb2.out.size (.cells #[.slice a m.length c, .slice ra m.length rc] 42))
    go_wp2_with fail
    refine (HC.out _ _ Hg.out).mono ?_
    rintro e w3 ⟨ga, gc, rfl, hgc, hgm, hg3, hb3⟩
    have Hg3 := Lib.hid (hg3.mono Hal.out.size (Nat.le_refl _)); have Hb3 := Lib.hid (Hal.out.trans (hb3.mono Hal.out.size))
    clear hg3 hb3
    go_wp2
    go_ret2
    exact ⟨ga, gc, rfl, hgc, hgm, Hg3.out, Hb3.out⟩
  · rw [decide_eq_false hm] at hM
    rw [Br.map_not fun h => hm h.1, decide_eq_false fun h : Br.MapOk m => hm h.1]
    have HM := Lib.hid hM
    clear hM hm ha
    go_enter Try.func65, Try.ntmps65
    go_wp2_with fail
    refine HM.out.mono ?_
    rintro e w1 ⟨rfl, hb1⟩
    have Hb1 := Lib.hid hb1; clear hb1
    go_wp2
    go_ret2
    exact GivesRows2.none Hb1.out (by unfold maxLen; omega)
end Go.Proofs.Ytpebgompfgkljaa
