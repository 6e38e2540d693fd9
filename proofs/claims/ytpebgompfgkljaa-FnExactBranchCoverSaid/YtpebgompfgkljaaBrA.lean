/-
  The walks of the program's productOf, inverseOf and IsPassport.
-/
import Derived.Test.YtpebgompfgkljaaBase
import Derived.Test.YtpebgompfgkljaaSlice
import Derived.Test.YtpebgompfgkljaaIntRow
import Derived.Test.YtpebgompfgkljaaInts
import Derived.Test.YtpebgompfgkljaaOwn
import Derived.Test.YtpebgompfgkljaaWord
import Derived.Test.YtpebgompfgkljaaSame
import Derived.Test.YtpebgompfgkljaaGrid
import Derived.Test.YtpebgompfgkljaaClass
import Derived.Test.YtpebgompfgkljaaLab
import Derived.Test.YtpebgompfgkljaaMap
import Derived.Test.YtpebgompfgkljaaMoveA
import Derived.Test.YtpebgompfgkljaaPermInv
import Derived.Test.YtpebgompfgkljaaCov
import Derived.Test.YtpebgompfgkljaaCovA
import Derived.Test.YtpebgompfgkljaaCovB
import Derived.Deep.QuietTactic
import Derived.Deep.RegionHeld3
import Derived.BigQuiet
import Derived.StillTailTactics
namespace Go.Proofs.Ytpebgompfgkljaa
open Go.RowKit

def Br.half (p : List Int) (c : Nat → Nat) (i : Nat) : Nat → Nat := fun k => if k < i then Mp.at_ p (c k) else c k
theorem Br.half_at (p : List Int) (c : Nat → Nat) (i : Nat) : Br.half p c i i = c i := by simp [Br.half]
theorem Br.half_put (p : List Int) (c : Nat → Nat) (i k : Nat) : (if k = i then Mp.at_ p (c i) else Br.half p c i k) = Br.half p c (i + 1) k := by
  unfold Br.half
  by_cases e : k = i
  · subst e; rw [if_pos rfl, if_pos (by omega)]
  · rw [if_neg e]
    by_cases e2 : k < i
    · rw [if_pos e2, if_pos (by omega)]
    · rw [if_neg e2, if_neg (by omega)]
set_option maxRecDepth 10000 in
set_option maxHeartbeats 2000000 in
theorem impl_productOf (a : Option Addr) (c n : Nat) (P : List (List Int)) (w : World) (ha : GridAt w a P) (hP : Br.Alike n P) (h1 : 1 ≤ P.length) (hl : P.length ≤ 1000) (hn : n ≤ 1000) :
    Calls Try.prog 121 #[.slice a P.length c] w fun e w' => e = .returned (.slice (some ⟨w.heap.size, 0, none⟩) n n) ∧ Lab w' w.heap.size (Br.mul P) n ∧ Below w.heap.size w w' := by
  obtain ⟨r0, hr0⟩ := get_some (show 0 < P.length by omega)
  have hr0l := (hP r0 (get_mem hr0)).1
  obtain ⟨b0, o0, a0, c0, rfl, hbw0, hcell0, _⟩ := ha.get hr0
  rw [Nat.add_zero, hr0l] at hcell0
  have i2 : 0 < P.length := by omega
  have Ha := Lib.hid ha; have HP := Lib.hid hP
  clear ha hP hr0 hr0l
  go_enter Try.func121, Try.ntmps121
  go_wp2_with fail
  refine (impl_unmovedSheets n w (by omega)).mono ?_
  rintro e w3 ⟨rfl, hlab, hb3⟩
  have Hlab := Lib.hid hlab; have Hb3 := Lib.hid hb3
  obtain ⟨N, hN⟩ : ∃ N, w.heap.size = N := ⟨_, rfl⟩
  have HN := Lib.hid hN
  rw [hN] at Hlab
  rw [hN]
  clear hlab hb3 hN hcell0
  go_wp2
  go_loopw [5, 6, 7, 15] (fun _ _ _ iv wr => ∃ i : Nat, i ≤ P.length ∧ iv = .int .i64 i ∧ Hid (Lab wr N (Br.mul (P.take i)) n) ∧ Hid (Below w.heap.size w wr)) (fun _ _ _ iv _ => P.length - (intOf iv).toNat)
  case atStart => exact ⟨0, by omega, rfl, Lib.hid (Hlab.out.congr fun k _ => rfl), Hb3⟩
  case round =>
    obtain ⟨i, hi, rfl, hlb, hb⟩ := hrel
    by_cases hlt : i < P.length
    · obtain ⟨p, hp⟩ := get_some hlt
      obtain ⟨b, o, ai, ci, he, hbw, hcell0, hrow⟩ := Ha.out.get hp
      cases he
      have hcell : wr.cell? ⟨b0, o0 + i, none⟩ = some (.slice ai p.length ci) := by rw [hb.out.cell hbw]; exact hcell0
      obtain ⟨hpl, hpP⟩ := HP.out p (get_mem hp)
      have hstep := fun s => Br.mul_take hp s
      have hcl : ∀ k, k < n → Br.mul (P.take i) k < n := fun k hk => Br.mul_lt (HP.out.take i) hk
      generalize Br.mul (P.take i) = u at *
      have Hstep := Lib.hid hstep; have Hcl := Lib.hid hcl; have Hrow := Lib.hid hrow; have HpP := Lib.hid hpP; have Hpl := Lib.hid hpl
      rw [hpl] at hcell
      clear hstep hcl hp hrow hpP hpl hcell0
      have i0 : (0 : Int) ≤ (i : Int) := by omega
      have i1 : (i : Int) < (P.length : Int) := by omega
      obtain ⟨wo, hwo⟩ : ∃ wo : World, wo = wr := ⟨_, rfl⟩
      subst hwo
      go_wp2
      go_loopw [6, 7, 21] (fun _ _ jv wr => ∃ j : Nat, j ≤ n ∧ jv = .int .i64 j ∧ Hid (Lab wr N (Br.half p u j) n) ∧ Hid (Below w.heap.size w wr)) (fun _ _ jv _ => n - (intOf jv).toNat)
      case atStart => exact ⟨0, by omega, rfl, Lib.hid (hlb.out.congr fun k _ => by simp [Br.half]), hb⟩
      case round =>
        obtain ⟨j, hj, rfl, hlb, hb⟩ := hrel
        by_cases hlt2 : j < n
        · have hcj := hlb.out.cell hlt2
          rw [Br.half_at] at hcj
          have hul : u j < p.length := by rw [Hpl.out]; exact Hcl.out j hlt2
          obtain ⟨b2, o2, e2, hbw2, hcell2⟩ := intCells_get? (Hrow.out.below hb.out) (Mp.at_get HpP.out hul)
          subst e2
          have hfz := hlb.out.frozen j
          have Hput := Lib.hid (fun W (h : Lab W N (Br.half p u j) n) => (h.put (i := j) (b := Mp.at_ p (u j)) hlt2).congr fun k _ => Br.half_put p u j k)
          have u0 : (0 : Int) ≤ (u j : Int) := by omega
          have u1 : (u j : Int) < (n : Int) := by have := Hpl.out; omega
          have u2 : u j < n := by have := Hpl.out; omega
          have Hset := Lib.hid (fun (v : Value) => hb.out.setCell (p := ⟨N, j, none⟩) (by rw [HN.out]; exact Nat.le_refl _) v)
          generalize Mp.at_ p (u j) = v at *
          generalize u j = uj at *
          have j0 : (0 : Int) ≤ (j : Int) := by omega
          have j1 : (j : Int) < (n : Int) := by omega
          clear hul
          go_wp2
          go_roundw
          case rel => exact ⟨j + 1, by omega, by go_num, Lib.hid (Hput.out _ hlb.out), Lib.hid (Hset.out _)⟩
          case measure => simp [intOf]; omega
        · obtain rfl : j = n := by omega
          go_wp2
          go_roundw
          case rel => exact ⟨i + 1, by omega, by go_num, Lib.hid (hlb.out.congr fun k hk => by rw [Hstep.out k]; unfold Br.half; rw [if_pos hk]), hb⟩
          case measure => simp [intOf]; omega
    · obtain rfl : i = P.length := by omega
      rw [List.take_of_length_le (Nat.le_refl _)] at hlb
      go_wp2
      go_ret
      rw [← HN.out] at hlb ⊢
      exact ⟨rfl, hlb.out, hb.out⟩
theorem Br.actW_one {p : List Int} (hP : Mp.IsP p) (h1 : 1 ≤ p.length) (h5 : p.length ≤ 5) : Cv.actW [p] [-1] = Mp.mirror p := by
  have hd : Cv.deg [p] = p.length := rfl
  have hok : Cv.Ok [p] [-1] := ⟨⟨fun q hq => by rw [List.mem_singleton.1 hq]; exact ⟨rfl, hP⟩, by simp, by simp, h1, h5⟩, ⟨fun x hx => by rw [List.mem_singleton.1 hx, Word.letter_iff]; omega, by simp⟩, fun x hx => by rw [List.mem_singleton.1 hx]; simp⟩
  rw [Cv.actW_of hok, hd]
  have hm := Cv.mirror_isP hP
  refine Eq.trans ?_ (Mp.at_row hm)
  rw [Mp.mirror_len, Cv.row_eq]
  refine Br.row_congr fun s _ => ?_
  show Cv.img [p] s (-1) = _
  have e : Cv.perm [p] (-1) = Mp.mirror p := by unfold Cv.perm; simp
  unfold Cv.img
  rw [e]
set_option maxRecDepth 10000 in
set_option maxHeartbeats 1000000 in
theorem impl_inverseOf (a : Option Addr) (c : Nat) (p : List Int) (w : World) (ha : RowAt w a (intCells p)) (hP : Mp.IsP p) (h1 : 1 ≤ p.length) (h5 : p.length ≤ 5) :
    Calls Try.prog 132 #[.slice a p.length c] w fun e w' => Gives w (Mp.mirror p) e w' := by
  have hb1 : Below w.heap.size w (w.alloc (.cells #[.slice a p.length c] 42)) := (Below.refl _ _).alloc (Nat.le_refl _) _
  have hb2 : Below w.heap.size w ((w.alloc (.cells #[.slice a p.length c] 42)).alloc (.cells #[.int .i64 (-1)] 3)) := hb1.alloc hb1.size _
  have hb12 : Below (w.alloc (.cells #[.slice a p.length c] 42)).heap.size (w.alloc (.cells #[.slice a p.length c] 42)) ((w.alloc (.cells #[.slice a p.length c] 42)).alloc (.cells #[.int .i64 (-1)] 3)) := (Below.refl _ _).alloc (Nat.le_refl _) _
  have hk : Blk (w.alloc (.cells #[.slice a p.length c] 42)) w.heap.size 42 #[.slice a p.length c] := Blk.new w _ _
  have hg : GridAt ((w.alloc (.cells #[.slice a p.length c] 42)).alloc (.cells #[.int .i64 (-1)] 3)) (some ⟨w.heap.size, 0, none⟩) [p] :=
    ⟨[⟨a, c, p⟩], rfl, (RowIn.of_blk (cs := hdCells [⟨a, c, p⟩]) (hk.below hb12 hk.lt) (Nat.zero_le _) (Nat.lt_succ_self _)).row, fun h hh => by rw [List.mem_singleton.1 hh]; exact ha.below hb2⟩
  have hk2 : Blk ((w.alloc (.cells #[.slice a p.length c] 42)).alloc (.cells #[.int .i64 (-1)] 3)) (w.alloc (.cells #[.slice a p.length c] 42)).heap.size 3 #[.int .i64 (-1)] := Blk.new _ _ _
  have hr : RowAt ((w.alloc (.cells #[.slice a p.length c] 42)).alloc (.cells #[.int .i64 (-1)] 3)) (some ⟨(w.alloc (.cells #[.slice a p.length c] 42)).heap.size, 0, none⟩) (intCells [-1]) := (RowIn.of_blk (cs := intCells [-1]) hk2 (Nat.zero_le _) (Nat.lt_succ_self _)).row
  have hsz : (w.alloc (.cells #[.slice a p.length c] 42)).heap.size = w.heap.size + 1 := by simp
  rw [hsz] at hr
  have hA := impl_ActWord _ _ 1 1 [p] [-1] _ hg (fun q hq => by rw [List.mem_singleton.1 hq]; omega) (by simp) hr (by simp)
  rw [Br.actW_one hP h1 h5] at hA
  have HA := Lib.hid hA; have Hb2 := Lib.hid hb2
  clear hA hb1 hb2 hb12 hk hk2 hg hr ha hsz
  go_enter Try.func132, Try.ntmps132
  go_wp2_with fail
  refine HA.out.mono ?_
  rintro e w1 ⟨ra, rc, rfl, h2, h3, hf, hb⟩
  have Hf := Lib.hid (hf.mono (Hb2.out.size)); have Hb := Lib.hid (Hb2.out.trans (hb.mono Hb2.out.size)); have H2 := Lib.hid h2; have H3 := Lib.hid h3
  clear hf hb h2 h3
  go_wp2
  go_ret
  exact ⟨ra, rc, rfl, H2.out, H3.out, Hf.out, Hb.out⟩
set_option maxRecDepth 10000 in
theorem impl_copyPermutations (a : Option Addr) (c : Nat) (L : List (List Int)) (w : World) (ha : GridAt w a L) (hl : tot L ≤ 1048576) :
    Calls Try.prog 131 #[.slice a L.length c] w fun e w' => e = .returned (.slice (some ⟨w.heap.size, 0, none⟩) L.length L.length) ∧ Held w' w.heap.size (.slice (some ⟨w.heap.size, 0, none⟩) L.length L.length) L ∧ Below w.heap.size w w' := by
  have Hc := Lib.hid (impl_copyPolygons a c L w ha hl)
  clear ha
  go_enter Try.func131, Try.ntmps131
  go_wp2_with fail
  refine Hc.out.mono ?_
  rintro e w1 ⟨rfl, h1, h2⟩
  have H1 := Lib.hid h1; have H2 := Lib.hid h2
  clear h1 h2
  go_wp2
  go_ret
  exact ⟨rfl, H1.out, H2.out⟩
set_option maxRecDepth 10000 in
set_option maxHeartbeats 2000000 in
theorem impl_IsPassport (a : Option Addr) (c : Nat) (L : List (List Int)) (w : World) (ha : GridAt w a L) (hL : ∀ p ∈ L, p.length ≤ 1048576) (hn : L.length ≤ 1048576) :
    Calls Try.prog 48 #[.slice a L.length c] w fun e w' => e = .returned (.bool (decide (Br.Pass L))) ∧ Below w.heap.size w w' := by
  have hcP := impl_doPermute a c L w ha hL hn
  by_cases hP : Cv.Perms L
  · rw [decide_eq_true hP] at hcP
    by_cases h5 : L.length ≤ 5
    · have hres : decide (Br.Pass L) = decide (Br.prod L (Cv.deg L) = Cls.row id (Cv.deg L)) := decide_eq_decide.2 ⟨fun h => Br.pass_prod.1 h.2.2, fun h => ⟨h5, hP, Br.pass_prod.2 h⟩⟩
      rw [hres]
      have dgt : ¬ (5 : Int) < (L.length : Int) := by omega
      have hd5 := hP.2.2.2.2
      have h1 := hP.2.1
      obtain ⟨r0, hr0, hr0l⟩ := Cv.head_get (L := L) (by omega)
      obtain ⟨b0, o0, a0, c0, rfl, hbw0, hcell0, _⟩ := ha.get hr0
      rw [Nat.add_zero] at hcell0
      have Hc0 := Lib.hid hcell0
      rw [hr0l] at Hc0
      have i2 : 0 < L.length := by omega
      have hR := fun W (hb : Below w.heap.size w W) => impl_productOf (some ⟨b0, o0, none⟩) c (Cv.deg L) L W (ha.below hb) (Br.alike hP) h1 (by omega) (by omega)
      have hpl : (Br.prod L (Cv.deg L)).length = Cv.deg L := Br.prod_len _ _
      generalize Cv.deg L = n at *
      have HcP := Lib.hid hcP; have HR := Lib.hid hR; have Hpl := Lib.hid hpl
      clear hcP hP ha hL hR hres hr0 hr0l hcell0 hpl
      obtain ⟨v, hv⟩ : ∃ v, decide (Br.prod L n = Cls.row id n) = v := ⟨_, rfl⟩
      rw [hv]
      have Hv := Lib.hid hv
      clear hv
      have HK : Hid (∀ W, Below w.heap.size w W → W.cell? ⟨b0, o0, none⟩ = some (.slice a0 n c0)) := Lib.hid (fun W h => by rw [h.cell hbw0]; exact Hc0.out)
      have HE : Hid (∀ ra a' W, RowAt W ra (intCells (Br.prod L n)) → RowAt W a' (intCells (Cls.row id n)) → Calls Try.prog 120 #[.slice ra n n, .slice a' n n] W fun e w' => e = .returned (.bool v) ∧ Below W.heap.size W w') := Lib.hid (fun ra a' W h h' => by
        rw [← Hv.out]
        have := slices_Equal ra a' n n (Br.prod L n) (Cls.row id n) W h h' (by rw [Hpl.out]; omega) (by rw [Cls.row_len]; omega)
        rwa [Cls.row_len, Hpl.out] at this)
      go_enter Try.func48, Try.ntmps48
      go_wp2_with fail
      refine HcP.out.mono ?_
      rintro e w1 ⟨rfl, hb1⟩
      have Hb1 := Lib.hid hb1; clear hb1
      have hBd := Below.drew Hb1.out
      have hSd := HK.out _ hBd
      have HkSd := Lib.hid hSd
      clear hSd
      go_wp2
      go_region_held3 (fun w' => w'.cell? ⟨b0, o0, none⟩ = some (.slice a0 n c0)) (first | (with_reducible assumption) | (with_reducible exact HkSd.out)) (first
        | (go_at_call 121; refine (HR.out _ hB5).mono ?_; rintro e w4 ⟨rfl, hf4, hb4⟩; have hA4 := hf4.row; have hI4 := hrow5.below hb4; have hB4 := hB5.trans (hb4.mono hB5.size); have hS4 := HK.out _ hB4)
        | (go_at_call 121; refine (HR.out _ hBd).mono ?_; rintro e w4 ⟨rfl, hf4, hb4⟩; have hA4 := hf4.row; have hB4 := hBd.trans (hb4.mono hBd.size); have hS4 := HK.out _ hB4)
        | (go_at_call 122; refine (impl_unmovedSheets n w4 (by omega)).mono ?_; rintro e w5 ⟨rfl, hlab, hb5⟩; have hA5 := hA4.below hb5; have hI5 := hlab.row; have hB5 := hB4.trans (hb5.mono hB4.size); have hS5 := HK.out _ hB5)
        | (go_at_call 122; refine (impl_unmovedSheets n _ (by omega)).mono ?_; rintro e w5 ⟨rfl, hlab, hb5⟩; have hrow5 := hlab.row; have hB5 := hBd.trans (hb5.mono hBd.size); have hS5 := HK.out _ hB5)
        | (go_at_call 120; refine (HE.out _ _ _ hA5 hI5).mono ?_; rintro e w6 ⟨rfl, hb6⟩; have hB6 := hB5.trans (hb6.mono hB5.size); have hS6 := HK.out _ hB6)
        | (go_at_call 120; refine (HE.out _ _ _ hA4 hI4).mono ?_; rintro e w6 ⟨rfl, hb6⟩; have hB6 := hB4.trans (hb6.mono hB4.size); have hS6 := HK.out _ hB6))
      all_goals
        clear hS6
        go_wp2
        go_ret
        exact ⟨rfl, hB6⟩
    · have dgt : (5 : Int) < (L.length : Int) := by omega
      rw [decide_eq_false fun h : Br.Pass L => h5 h.1]
      have HcP := Lib.hid hcP
      clear hcP hP ha hL
      go_enter Try.func48, Try.ntmps48
      go_wp2_with fail
      refine HcP.out.mono ?_
      rintro e w1 ⟨rfl, hb1⟩
      have Hb1 := Lib.hid hb1; clear hb1
      go_wp2
      go_ret
      exact ⟨rfl, Hb1.out⟩
  · rw [decide_eq_false hP] at hcP
    rw [decide_eq_false fun h : Br.Pass L => hP h.2.1]
    have HcP := Lib.hid hcP
    clear hcP hP ha hL
    go_enter Try.func48, Try.ntmps48
    go_wp2_with fail
    refine HcP.out.mono ?_
    rintro e w1 ⟨rfl, hb1⟩
    have Hb1 := Lib.hid hb1; clear hb1
    go_wp2
    go_ret
    exact ⟨rfl, Hb1.out⟩
end Go.Proofs.Ytpebgompfgkljaa
