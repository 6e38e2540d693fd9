/-
  The walks of the program's productOf, inverseOf and IsPassport. The walks of the program's CycleTypes and BranchSum. The walks of the program's CloseUp, BraidPassport, exchangeOfMates and MapPassport. The walks of the program's BraidPassport, exchangeOfMates and MapPassport. The walk of the program's BranchCover. The walks of the model's l10Letters, IsPassport, BranchSum and CloseUp. The walks of the model's BranchCover, BraidPassport and MapPassport. The walks of the model's BraidPassport and MapPassport. The walk of the model's CycleTypes.
-/
import Derived.Test.YtpebgompfgkljaaGreatBase
import Derived.Test.YtpebgompfgkljaaGreatSlice
import Derived.Test.YtpebgompfgkljaaGreatIntRow
import Derived.Test.YtpebgompfgkljaaGreatInts
import Derived.Test.YtpebgompfgkljaaGreatOwn
import Derived.Test.YtpebgompfgkljaaGreatWord
import Derived.Test.YtpebgompfgkljaaGreatSame
import Derived.Test.YtpebgompfgkljaaGreatGrid
import Derived.Test.YtpebgompfgkljaaGreatClass
import Derived.Test.YtpebgompfgkljaaGreatLab
import Derived.Test.YtpebgompfgkljaaGreatMap
import Derived.Test.YtpebgompfgkljaaGreatMoveA
import Derived.Test.YtpebgompfgkljaaGreatPermInv
import Derived.Test.YtpebgompfgkljaaGreatCov
import Derived.Test.YtpebgompfgkljaaGreatCovA
import Derived.Test.YtpebgompfgkljaaGreatCovB
import Derived.Deep.QuietTactic
import Derived.Deep.RegionHeld3
import Derived.BigQuiet
import Derived.StillTailTactics
import Derived.Test.YtpebgompfgkljaaGreatAppend
import Derived.Test.YtpebgompfgkljaaGreatGridWalk
import Derived.Test.YtpebgompfgkljaaGreatGridRows
import Derived.Test.YtpebgompfgkljaaGreatCovF
import Derived.Test.YtpebgompfgkljaaGreatMapA
import Derived.Test.YtpebgompfgkljaaGreatSurf
import Derived.Test.YtpebgompfgkljaaGreatCovD
import Derived.Test.YtpebgompfgkljaaGreatIsWord
import Derived.Test.YtpebgompfgkljaaGreatMapB
import Derived.Test.YtpebgompfgkljaaGreatCovC
import Derived.Test.YtpebgompfgkljaaGreatHead
namespace Go.Proofs.YtpebgompfgkljaaGreat
open Go.RowKit

def Br.half (p : List Int) (c : Nat → Nat) (i : Nat) : Nat → Nat := fun k => if k < i then Mp.at_ p (c k) else c k
theorem Br.half_at (p : List Int) (c : Nat → Nat) (i : Nat) : Br.half p c i i = c i := by simp [Br.half]
theorem Br.half_put (p : List Int) (c : Nat → Nat) (i k : Nat) : (if k = i then Mp.at_ p (c i) else Br.half p c i k) = Br.half p c (i + 1) k := by
  unfold Br.half
  by_cases e : k = i
  · subst e; rw [if_pos rfl, if_pos (by omega)]
  · rw [if_neg e]
    by_cases e2 : k < i
    · rw [if_pos e2, if_pos (by omega)]
    · rw [if_neg e2, if_neg (by omega)]
set_option maxRecDepth 10000 in
set_option maxHeartbeats 2000000 in
theorem impl_productOf (a : Option Addr) (c n : Nat) (P : List (List Int)) (w : World) (ha : GridAt w a P) (hP : Br.Alike n P) (h1 : 1 ≤ P.length) (hl : P.length ≤ 1000) (hn : n ≤ 1000) :
    Calls Tryz.prog 101 #[.slice a P.length c] w fun e w' => e = .returned (.slice (some ⟨w.heap.size, 0, none⟩) n n) ∧ Lab w' w.heap.size (Br.mul P) n ∧ Below w.heap.size w w' := by
  obtain ⟨r0, hr0⟩ := get_some (show 0 < P.length by omega)
  have hr0l := (hP r0 (get_mem hr0)).1
  obtain ⟨b0, o0, a0, c0, rfl, hbw0, hcell0, _⟩ := ha.get hr0
  rw [Nat.add_zero, hr0l] at hcell0
  have i2 : 0 < P.length := by omega
  have Ha := Lib.hid ha; have HP := Lib.hid hP
  clear ha hP hr0 hr0l
  go_enter Tryz.func101, Tryz.ntmps101
  go_wp2_with fail
  refine (impl_unmovedSheets n w (by omega)).mono ?_
  rintro e w3 ⟨rfl, hlab, hb3⟩
  have Hlab := Lib.hid hlab; have Hb3 := Lib.hid hb3
  obtain ⟨N, hN⟩ : ∃ N, w.heap.size = N := ⟨_, rfl⟩
  have HN := Lib.hid hN
  rw [hN] at Hlab
  rw [hN]
  clear hlab hb3 hN hcell0
  go_wp2
  go_loopw [5, 6, 7, 15] (fun _ _ _ iv wr => ∃ i : Nat, i ≤ P.length ∧ iv = .int .i64 i ∧ Hid (Lab wr N (Br.mul (P.take i)) n) ∧ Hid (Below w.heap.size w wr)) (fun _ _ _ iv _ => P.length - (intOf iv).toNat)
  case atStart => exact ⟨0, by omega, rfl, Lib.hid (Hlab.out.congr fun k _ => rfl), Hb3⟩
  case round =>
    obtain ⟨i, hi, rfl, hlb, hb⟩ := hrel
    by_cases hlt : i < P.length
    · obtain ⟨p, hp⟩ := get_some hlt
      obtain ⟨b, o, ai, ci, he, hbw, hcell0, hrow⟩ := Ha.out.get hp
      cases he
      have hcell : wr.cell? ⟨b0, o0 + i, none⟩ = some (.slice ai p.length ci) := by rw [hb.out.cell hbw]; exact hcell0
      obtain ⟨hpl, hpP⟩ := HP.out p (get_mem hp)
      have hstep := fun s => Br.mul_take hp s
      have hcl : ∀ k, k < n → Br.mul (P.take i) k < n := fun k hk => Br.mul_lt (HP.out.take i) hk
      generalize Br.mul (P.take i) = u at *
      have Hstep := Lib.hid hstep; have Hcl := Lib.hid hcl; have Hrow := Lib.hid hrow; have HpP := Lib.hid hpP; have Hpl := Lib.hid hpl
      rw [hpl] at hcell
      clear hstep hcl hp hrow hpP hpl hcell0
      have i0 : (0 : Int) ≤ (i : Int) := by omega
      have i1 : (i : Int) < (P.length : Int) := by omega
      obtain ⟨wo, hwo⟩ : ∃ wo : World, wo = wr := ⟨_, rfl⟩
      subst hwo
      go_wp2
      go_loopw [6, 7, 21] (fun _ _ jv wr => ∃ j : Nat, j ≤ n ∧ jv = .int .i64 j ∧ Hid (Lab wr N (Br.half p u j) n) ∧ Hid (Below w.heap.size w wr)) (fun _ _ jv _ => n - (intOf jv).toNat)
      case atStart => exact ⟨0, by omega, rfl, Lib.hid (hlb.out.congr fun k _ => by simp [Br.half]), hb⟩
      case round =>
        obtain ⟨j, hj, rfl, hlb, hb⟩ := hrel
        by_cases hlt2 : j < n
        · have hcj := hlb.out.cell hlt2
          rw [Br.half_at] at hcj
          have hul : u j < p.length := by rw [Hpl.out]; exact Hcl.out j hlt2
          obtain ⟨b2, o2, e2, hbw2, hcell2⟩ := intCells_get? (Hrow.out.below hb.out) (Mp.at_get HpP.out hul)
          subst e2
          have hfz := hlb.out.frozen j
          have Hput := Lib.hid (fun W (h : Lab W N (Br.half p u j) n) => (h.put (i := j) (b := Mp.at_ p (u j)) hlt2).congr fun k _ => Br.half_put p u j k)
          have u0 : (0 : Int) ≤ (u j : Int) := by omega
          have u1 : (u j : Int) < (n : Int) := by have := Hpl.out; omega
          have u2 : u j < n := by have := Hpl.out; omega
          have Hset := Lib.hid (fun (v : Value) => hb.out.setCell (p := ⟨N, j, none⟩) (by rw [HN.out]; exact Nat.le_refl _) v)
          generalize Mp.at_ p (u j) = v at *
          generalize u j = uj at *
          have j0 : (0 : Int) ≤ (j : Int) := by omega
          have j1 : (j : Int) < (n : Int) := by omega
          clear hul
          go_wp2
          go_roundw
          case rel => exact ⟨j + 1, by omega, by go_num, Lib.hid (Hput.out _ hlb.out), Lib.hid (Hset.out _)⟩
          case measure => simp [intOf]; omega
        · obtain rfl : j = n := by omega
          go_wp2
          go_roundw
          case rel => exact ⟨i + 1, by omega, by go_num, Lib.hid (hlb.out.congr fun k hk => by rw [Hstep.out k]; unfold Br.half; rw [if_pos hk]), hb⟩
          case measure => simp [intOf]; omega
    · obtain rfl : i = P.length := by omega
      rw [List.take_of_length_le (Nat.le_refl _)] at hlb
      go_wp2
      go_ret
      rw [← HN.out] at hlb ⊢
      exact ⟨rfl, hlb.out, hb.out⟩
theorem Br.actW_one {p : List Int} (hP : Mp.IsP p) (h1 : 1 ≤ p.length) (h5 : p.length ≤ 5) : Cv.actW [p] [-1] = Mp.mirror p := by
  have hd : Cv.deg [p] = p.length := rfl
  have hok : Cv.Ok [p] [-1] := ⟨⟨fun q hq => by rw [List.mem_singleton.1 hq]; exact ⟨rfl, hP⟩, by simp, by simp, h1, h5⟩, ⟨fun x hx => by rw [List.mem_singleton.1 hx, Word.letter_iff]; omega, by simp⟩, fun x hx => by rw [List.mem_singleton.1 hx]; simp⟩
  rw [Cv.actW_of hok, hd]
  have hm := Cv.mirror_isP hP
  refine Eq.trans ?_ (Mp.at_row hm)
  rw [Mp.mirror_len, Cv.row_eq]
  refine Br.row_congr fun s _ => ?_
  show Cv.img [p] s (-1) = _
  have e : Cv.perm [p] (-1) = Mp.mirror p := by unfold Cv.perm; simp
  unfold Cv.img
  rw [e]
set_option maxRecDepth 10000 in
set_option maxHeartbeats 1000000 in
theorem impl_inverseOf (a : Option Addr) (c : Nat) (p : List Int) (w : World) (ha : RowAt w a (intCells p)) (hP : Mp.IsP p) (h1 : 1 ≤ p.length) (h5 : p.length ≤ 5) :
    Calls Tryz.prog 100 #[.slice a p.length c] w fun e w' => Gives w (Mp.mirror p) e w' := by
  have hb1 : Below w.heap.size w (w.alloc (.cells #[.slice a p.length c] 30)) := (Below.refl _ _).alloc (Nat.le_refl _) _
  have hb2 : Below w.heap.size w ((w.alloc (.cells #[.slice a p.length c] 30)).alloc (.cells #[.int .i64 (-1)] 3)) := hb1.alloc hb1.size _
  have hb12 : Below (w.alloc (.cells #[.slice a p.length c] 30)).heap.size (w.alloc (.cells #[.slice a p.length c] 30)) ((w.alloc (.cells #[.slice a p.length c] 30)).alloc (.cells #[.int .i64 (-1)] 3)) := (Below.refl _ _).alloc (Nat.le_refl _) _
  have hk : Blk (w.alloc (.cells #[.slice a p.length c] 30)) w.heap.size 30 #[.slice a p.length c] := Blk.new w _ _
  have hg : GridAt ((w.alloc (.cells #[.slice a p.length c] 30)).alloc (.cells #[.int .i64 (-1)] 3)) (some ⟨w.heap.size, 0, none⟩) [p] :=
    ⟨[⟨a, c, p⟩], rfl, (RowIn.of_blk (cs := hdCells [⟨a, c, p⟩]) (hk.below hb12 hk.lt) (Nat.zero_le _) (Nat.lt_succ_self _)).row, fun h hh => by rw [List.mem_singleton.1 hh]; exact ha.below hb2⟩
  have hk2 : Blk ((w.alloc (.cells #[.slice a p.length c] 30)).alloc (.cells #[.int .i64 (-1)] 3)) (w.alloc (.cells #[.slice a p.length c] 30)).heap.size 3 #[.int .i64 (-1)] := Blk.new _ _ _
  have hr : RowAt ((w.alloc (.cells #[.slice a p.length c] 30)).alloc (.cells #[.int .i64 (-1)] 3)) (some ⟨(w.alloc (.cells #[.slice a p.length c] 30)).heap.size, 0, none⟩) (intCells [-1]) := (RowIn.of_blk (cs := intCells [-1]) hk2 (Nat.zero_le _) (Nat.lt_succ_self _)).row
  have hsz : (w.alloc (.cells #[.slice a p.length c] 30)).heap.size = w.heap.size + 1 := by simp
  rw [hsz] at hr
  have hA := impl_ActWord _ _ 1 1 [p] [-1] _ hg (fun q hq => by rw [List.mem_singleton.1 hq]; omega) (by simp) hr (by simp)
  rw [Br.actW_one hP h1 h5] at hA
  have HA := Lib.hid hA; have Hb2 := Lib.hid hb2
  clear hA hb1 hb2 hb12 hk hk2 hg hr ha hsz
  go_enter Tryz.func100, Tryz.ntmps100
  go_wp2_with fail
  refine HA.out.mono ?_
  rintro e w1 ⟨ra, rc, rfl, h2, h3, hf, hb⟩
  have Hf := Lib.hid (hf.mono (Hb2.out.size)); have Hb := Lib.hid (Hb2.out.trans (hb.mono Hb2.out.size)); have H2 := Lib.hid h2; have H3 := Lib.hid h3
  clear hf hb h2 h3
  go_wp2
  go_ret
  exact ⟨ra, rc, rfl, H2.out, H3.out, Hf.out, Hb.out⟩
set_option maxRecDepth 10000 in
theorem impl_copyPermutations (a : Option Addr) (c : Nat) (L : List (List Int)) (w : World) (ha : GridAt w a L) (hl : tot L ≤ 1048576) :
    Calls Tryz.prog 99 #[.slice a L.length c] w fun e w' => e = .returned (.slice (some ⟨w.heap.size, 0, none⟩) L.length L.length) ∧ Held w' w.heap.size (.slice (some ⟨w.heap.size, 0, none⟩) L.length L.length) L ∧ Below w.heap.size w w' := by
  have Hc := Lib.hid (impl_copyPolygons a c L w ha hl)
  clear ha
  go_enter Tryz.func99, Tryz.ntmps99
  go_wp2_with fail
  refine Hc.out.mono ?_
  rintro e w1 ⟨rfl, h1, h2⟩
  have H1 := Lib.hid h1; have H2 := Lib.hid h2
  clear h1 h2
  go_wp2
  go_ret
  exact ⟨rfl, H1.out, H2.out⟩
set_option maxRecDepth 10000 in
set_option maxHeartbeats 2000000 in
theorem impl_IsPassport (a : Option Addr) (c : Nat) (L : List (List Int)) (w : World) (ha : GridAt w a L) (hL : ∀ p ∈ L, p.length ≤ 1048576) (hn : L.length ≤ 1048576) :
    Calls Tryz.prog 42 #[.slice a L.length c] w fun e w' => e = .returned (.bool (decide (Br.Pass L))) ∧ Below w.heap.size w w' := by
  have hcP := impl_doPermute a c L w ha hL hn
  by_cases hP : Cv.Perms L
  · rw [decide_eq_true hP] at hcP
    by_cases h5 : L.length ≤ 5
    · have hres : decide (Br.Pass L) = decide (Br.prod L (Cv.deg L) = Cls.row id (Cv.deg L)) := decide_eq_decide.2 ⟨fun h => Br.pass_prod.1 h.2.2, fun h => ⟨h5, hP, Br.pass_prod.2 h⟩⟩
      rw [hres]
      have dgt : ¬ (5 : Int) < (L.length : Int) := by omega
      have hd5 := hP.2.2.2.2
      have h1 := hP.2.1
      obtain ⟨r0, hr0, hr0l⟩ := Cv.head_get (L := L) (by omega)
      obtain ⟨b0, o0, a0, c0, rfl, hbw0, hcell0, _⟩ := ha.get hr0
      rw [Nat.add_zero] at hcell0
      have Hc0 := Lib.hid hcell0
      rw [hr0l] at Hc0
      have i2 : 0 < L.length := by omega
      have hR := fun W (hb : Below w.heap.size w W) => impl_productOf (some ⟨b0, o0, none⟩) c (Cv.deg L) L W (ha.below hb) (Br.alike hP) h1 (by omega) (by omega)
      have hpl : (Br.prod L (Cv.deg L)).length = Cv.deg L := Br.prod_len _ _
      generalize Cv.deg L = n at *
      have HcP := Lib.hid hcP; have HR := Lib.hid hR; have Hpl := Lib.hid hpl
      clear hcP hP ha hL hR hres hr0 hr0l hcell0 hpl
      obtain ⟨v, hv⟩ : ∃ v, decide (Br.prod L n = Cls.row id n) = v := ⟨_, rfl⟩
      rw [hv]
      have Hv := Lib.hid hv
      clear hv
      have HK : Hid (∀ W, Below w.heap.size w W → W.cell? ⟨b0, o0, none⟩ = some (.slice a0 n c0)) := Lib.hid (fun W h => by rw [h.cell hbw0]; exact Hc0.out)
      have HE : Hid (∀ ra a' W, RowAt W ra (intCells (Br.prod L n)) → RowAt W a' (intCells (Cls.row id n)) → Calls Tryz.prog 89 #[.slice ra n n, .slice a' n n] W fun e w' => e = .returned (.bool v) ∧ Below W.heap.size W w') := Lib.hid (fun ra a' W h h' => by
        rw [← Hv.out]
        have := slices_Equal ra a' n n (Br.prod L n) (Cls.row id n) W h h' (by rw [Hpl.out]; omega) (by rw [Cls.row_len]; omega)
        rwa [Cls.row_len, Hpl.out] at this)
      go_enter Tryz.func42, Tryz.ntmps42
      go_wp2_with fail
      refine HcP.out.mono ?_
      rintro e w1 ⟨rfl, hb1⟩
      have Hb1 := Lib.hid hb1; clear hb1
      have hBd := Below.drew Hb1.out
      have hSd := HK.out _ hBd
      have HkSd := Lib.hid hSd
      clear hSd
      go_wp2
      go_region_held3 (fun w' => w'.cell? ⟨b0, o0, none⟩ = some (.slice a0 n c0)) (first | (with_reducible assumption) | (with_reducible exact HkSd.out)) (first
        | (go_at_call 101; refine (HR.out _ hB5).mono ?_; rintro e w4 ⟨rfl, hf4, hb4⟩; have hA4 := hf4.row; have hI4 := hrow5.below hb4; have hB4 := hB5.trans (hb4.mono hB5.size); have hS4 := HK.out _ hB4)
        | (go_at_call 101; refine (HR.out _ hBd).mono ?_; rintro e w4 ⟨rfl, hf4, hb4⟩; have hA4 := hf4.row; have hB4 := hBd.trans (hb4.mono hBd.size); have hS4 := HK.out _ hB4)
        | (go_at_call 61; refine (impl_unmovedSheets n w4 (by omega)).mono ?_; rintro e w5 ⟨rfl, hlab, hb5⟩; have hA5 := hA4.below hb5; have hI5 := hlab.row; have hB5 := hB4.trans (hb5.mono hB4.size); have hS5 := HK.out _ hB5)
        | (go_at_call 61; refine (impl_unmovedSheets n _ (by omega)).mono ?_; rintro e w5 ⟨rfl, hlab, hb5⟩; have hrow5 := hlab.row; have hB5 := hBd.trans (hb5.mono hBd.size); have hS5 := HK.out _ hB5)
        | (go_at_call 89; refine (HE.out _ _ _ hA5 hI5).mono ?_; rintro e w6 ⟨rfl, hb6⟩; have hB6 := hB5.trans (hb6.mono hB5.size); have hS6 := HK.out _ hB6)
        | (go_at_call 89; refine (HE.out _ _ _ hA4 hI4).mono ?_; rintro e w6 ⟨rfl, hb6⟩; have hB6 := hB4.trans (hb6.mono hB4.size); have hS6 := HK.out _ hB6))
      all_goals
        clear hS6
        go_wp2
        go_ret
        exact ⟨rfl, hB6⟩
    · have dgt : (5 : Int) < (L.length : Int) := by omega
      rw [decide_eq_false fun h : Br.Pass L => h5 h.1]
      have HcP := Lib.hid hcP
      clear hcP hP ha hL
      go_enter Tryz.func42, Tryz.ntmps42
      go_wp2_with fail
      refine HcP.out.mono ?_
      rintro e w1 ⟨rfl, hb1⟩
      have Hb1 := Lib.hid hb1; clear hb1
      go_wp2
      go_ret
      exact ⟨rfl, Hb1.out⟩
  · rw [decide_eq_false hP] at hcP
    rw [decide_eq_false fun h : Br.Pass L => hP h.2.1]
    have HcP := Lib.hid hcP
    clear hcP hP ha hL
    go_enter Tryz.func42, Tryz.ntmps42
    go_wp2_with fail
    refine HcP.out.mono ?_
    rintro e w1 ⟨rfl, hb1⟩
    have Hb1 := Lib.hid hb1; clear hb1
    go_wp2
    go_ret
    exact ⟨rfl, Hb1.out⟩
end Go.Proofs.YtpebgompfgkljaaGreat
namespace Go.Proofs.YtpebgompfgkljaaGreat
open Go.RowKit

theorem Br.lifts_letter {L : List (List Int)} (h : Cv.Perms L) {i : Nat} {p : List Int} (hp : L[i]? = some p) : Cv.lifts L [((i + 1 : Nat) : Int)] = Br.lens p := by
  rw [Cv.lifts_eq, Br.actW_letter h hp]; rfl
theorem Br.types_of {L : List (List Int)} (h : Br.Pass L) : Br.types L = L.map Br.lens := if_pos h
theorem Br.types_not {L : List (List Int)} (h : ¬ Br.Pass L) : Br.types L = [] := if_neg h
theorem Br.types_take {L : List (List Int)} {i : Nat} {p : List Int} (hp : L[i]? = some p) : (L.take (i + 1)).map Br.lens = (L.take i).map Br.lens ++ [Br.lens p] := by
  obtain ⟨hi, rfl⟩ := List.getElem?_eq_some_iff.1 hp
  rw [List.take_succ_eq_append_getElem hi, List.map_append]; rfl
set_option maxRecDepth 10000 in
set_option maxHeartbeats 2000000 in
theorem impl_CycleTypes (a : Option Addr) (c : Nat) (L : List (List Int)) (w : World) (ha : GridAt w a L) (hL : ∀ p ∈ L, p.length ≤ 1048576) (hn : L.length ≤ 1048576) :
    Calls Tryz.prog 46 #[.slice a L.length c] w fun e w' => GivesRows w (Br.types L) e w' := by
  have hcP := impl_IsPassport a c L w ha hL hn
  by_cases hP : Br.Pass L
  · rw [decide_eq_true hP] at hcP
    rw [Br.types_of hP]
    obtain ⟨i0, hi0, hz0, hz1, hz2⟩ := info_ints_parts
    have Hi0 := Lib.hid hi0; have Hz0 := Lib.hid hz0; have Hz1 := Lib.hid hz1; have Hz2 := Lib.hid hz2
    have h5 := hP.1
    have hpp := hP.2.1
    have hLf := fun i p (hp : L[i]? = some p) al cl W (hg : GridAt W a L) (hr : RowAt W al (intCells [((i + 1 : Nat) : Int)])) => impl_LiftLengths a al c cl L [((i + 1 : Nat) : Int)] W hg hL hn hr (by simp)
    have HcP := Lib.hid hcP; have Hpp := Lib.hid hpp; have HLf := Lib.hid hLf; have Ha := Lib.hid ha
    clear hcP hP ha hL hLf hpp hi0 hz0 hz1 hz2
    go_enter Tryz.func46, Tryz.ntmps46
    go_wp2_with fail
    refine HcP.out.mono ?_
    rintro e w1 ⟨rfl, hb1⟩
    have Hb1 := Lib.hid hb1
    obtain ⟨N, hN⟩ : ∃ N, w.heap.size = N := ⟨_, rfl⟩
    have HN := Lib.hid hN
    have hN1 : N ≤ w1.heap.size := by have := hb1.size; omega
    clear hb1 hN
    go_wp2
    go_loopw [3, 4, 5, 11] (fun ov _ _ iv wr => ∃ i : Nat, i ≤ L.length ∧ iv = .int .i64 i ∧ Hid (Below w.heap.size w wr) ∧ Hid (∃ hs : List Hd, hs.map Hd.l = (L.take i).map Br.lens ∧ wr.ownsRow N 30 1 ov i (hdCells hs) ∧ (∀ h ∈ hs, RowIn wr N wr.heap.size 3 h.a (intCells h.l)) ∧ Apts hs)) (fun _ _ _ iv _ => L.length - (intOf iv).toNat)
    case atStart => exact ⟨0, by omega, rfl, Hb1, Lib.hid ⟨[], rfl, World.ownsRow_nil _ _ _ _, fun _ h => (by cases h), Apts.nil⟩⟩
    case round =>
      obtain ⟨i, hi, rfl, hb, hgr⟩ := hrel
      by_cases hlt : i < L.length
      · obtain ⟨p, hp⟩ := get_some hlt
        obtain ⟨hs', hh1, hown, hin, hap⟩ := hgr.out
        have hW0 := fun al cl W => HLf.out i p hp al cl W
        rw [Br.lifts_letter Hpp.out hp] at hW0
        obtain ⟨Z, hZ⟩ : ∃ Z : Int, ((i + 1 : Nat) : Int) = Z := ⟨_, rfl⟩
        rw [hZ] at hW0
        have e2 : IntKind.i64.wrap ((i : Int) + 1) = Z := by rw [wrap_small (by omega) (by omega)]; omega
        have hNw : N ≤ wr.heap.size := by have := hb.out.size; have := HN.out; omega
        have hbA : Below wr.heap.size wr (wr.alloc (.cells #[.int .i64 Z] 3)) := (Below.refl _ _).alloc (Nat.le_refl _) _
        have hk : Blk (wr.alloc (.cells #[.int .i64 Z] 3)) wr.heap.size 3 #[.int .i64 Z] := Blk.new _ _ _
        have hbB := hb.out.trans (hbA.mono hb.out.size)
        have hW := hW0 (some ⟨wr.heap.size, 0, none⟩) 1 _ (Ha.out.below hbB) (RowIn.of_blk (cs := intCells [Z]) hk (Nat.zero_le _) (Nat.lt_succ_self _)).row
        have hsn := Br.types_take hp
        have HZ := Lib.hid hZ
        generalize Br.lens p = l at *
        have Hsn := Lib.hid hsn; have HW := Lib.hid hW; have Hh1 := Lib.hid hh1; have Hown := Lib.hid hown; have Hin := Lib.hid hin; have Hap := Lib.hid hap; have HbA := Lib.hid hbA; have HbB := Lib.hid hbB
        clear hsn hW hW0 hZ hh1 hown hin hap hgr hp hk hbA hbB
        have hm1 : i + 1 ≤ maxLen := by unfold maxLen; omega
        have hm2 : (i + 1) * 24 ≤ 140737488355328 := by omega
        obtain ⟨ova, ovc, he⟩ := own_len Hown.out
        subst he
        go_wp2_with fail
        refine HW.out.mono ?_
        rintro e w2 ⟨ra, rc, rfl, hlc, _, hf, hb2⟩
        have Hlc := Lib.hid hlc
        have hb2' : Below wr.heap.size wr w2 := HbA.out.trans (hb2.mono HbA.out.size)
        have hN2 : N ≤ w2.heap.size := Nat.le_trans hNw hb2'.size
        have Hown2 := Lib.hid (own_keep Hown.out hb2' (fun k hk => (Hown.out.lt k hk).2))
        have Hb2 := Lib.hid hb2'; have Hbw2 := Lib.hid (hb.out.trans (hb2'.mono hb.out.size)); have Hf := Lib.hid (hf.mono HbA.out.size)
        clear hf hb2 hb2' hlc
        go_wp2_with (at_builtin; refine append_one rfl (.tmp 16) (.tmp 21) 24 rfl N 30 i0 _ 24 Tryz.underlying24 Hi0.out Hz0.out Hz1.out Hz2.out (by rfl) _ _ _ rfl Hown2.out (by rfl) _ rfl hm1 hm2 hN2 ?_; intro v1 w3 hown1 hg1 _)
        go_roundw
        case rel =>
          have hst := grid_step (c := rc) Hin.out Hap.out Hown2.out hNw Hf.out Hb2.out hg1 Hlc.out
          refine ⟨i + 1, by omega, by rw [← HZ.out], Lib.hid (Below.grown (Hbw2.out.alloc (by have := HN.out; omega) _) hg1 (by have := HN.out; simp; omega) (fun k hk => by have := (Hown2.out.lt k hk).1; have := HN.out; omega)), Lib.hid ⟨hs' ++ [⟨ra, rc, l⟩], ?_, ?_, hst⟩⟩
          · rw [List.map_append, Hh1.out, Hsn.out]; rfl
          · rw [← hdCells_snoc]; exact hown1
        case measure => have := HZ.out; simp [intOf]; omega
      · obtain rfl : i = L.length := by omega
        obtain ⟨hs', hh1, hown, hin, hap⟩ := hgr.out
        rw [List.take_of_length_le (Nat.le_refl _)] at hh1
        have hl : hs'.length = L.length := by have := congrArg List.length hh1; simpa using this
        obtain ⟨ga, gc, rfl, hgc, hgm, hg⟩ := grid_done hown hl hin hap
        rw [hh1] at hg
        have Hg := Lib.hid hg
        clear hg hgr hh1 hown hin hap
        go_wp2
        go_ret
        refine ⟨ga, gc, by rw [List.length_map]; rfl, by rw [List.length_map]; exact hgc, hgm, ?_, hb.out⟩
        rw [HN.out]; exact Hg.out
  · rw [decide_eq_false hP] at hcP
    rw [Br.types_not hP]
    have HcP := Lib.hid hcP
    clear hcP hP ha hL
    go_enter Tryz.func46, Tryz.ntmps46
    go_wp2_with fail
    refine HcP.out.mono ?_
    rintro e w1 ⟨rfl, hb1⟩
    have Hb1 := Lib.hid hb1; clear hb1
    go_wp2
    go_ret
    exact GivesRows.none Hb1.out
theorem Br.bsum_of {L : List (List Int)} (h : Br.Pass L) : Br.bsum L = Br.total L := if_pos h
theorem Br.bsum_not {L : List (List Int)} (h : ¬ Br.Pass L) : Br.bsum L = -1 := if_neg h
set_option maxRecDepth 10000 in
set_option maxHeartbeats 2000000 in
theorem impl_BranchSum (a : Option Addr) (c : Nat) (L : List (List Int)) (w : World) (ha : GridAt w a L) (hL : ∀ p ∈ L, p.length ≤ 1048576) (hn : L.length ≤ 1048576) :
    Calls Tryz.prog 44 #[.slice a L.length c] w fun e w' => e = .returned (.int .i64 (Br.bsum L)) ∧ Below w.heap.size w w' := by
  have hcP := impl_IsPassport a c L w ha hL hn
  by_cases hP : Br.Pass L
  · rw [decide_eq_true hP] at hcP
    rw [Br.bsum_of hP]
    have hcT := fun W (hb : Below w.heap.size w W) => impl_CycleTypes a c L W (ha.below hb) hL hn
    rw [Br.types_of hP] at hcT
    have hd1 := hP.2.1.2.1
    have h5 := hP.1
    have hd5 := hP.2.1.2.2.2.2
    obtain ⟨r0, hr0, hr0l⟩ := Cv.head_get (L := L) (by omega)
    obtain ⟨b0, o0, a0, c0, rfl, hbw0, hcell0, _⟩ := ha.get hr0
    rw [Nat.add_zero, hr0l] at hcell0
    have i2 : 0 < L.length := by omega
    have hmem := hP.2.1.1
    have HcP := Lib.hid hcP; have HcT := Lib.hid hcT; have HP := Lib.hid hP; have Hc0 := Lib.hid hcell0; have Hmem := Lib.hid hmem
    have hml : (L.map Br.lens).length = L.length := List.length_map _
    have Hml := Lib.hid hml
    clear hcP hcT hP ha hL hr0 hr0l hcell0 hmem hml
    go_enter Tryz.func44, Tryz.ntmps44
    go_wp2_with fail
    refine HcP.out.mono ?_
    rintro e w1 ⟨rfl, hb1⟩
    have Hb1 := Lib.hid hb1; clear hb1
    go_wp2_with fail
    refine (HcT.out w1 Hb1.out).mono ?_
    rintro e w2 ⟨ta, tc, rfl, _, _, hg2, hb2⟩
    have Hb2 := Lib.hid (Hb1.out.trans (hb2.mono Hb1.out.size)); have Hg2 := Lib.hid hg2.grid
    rw [Hml.out]
    clear hb2 hg2
    have c1 : w2.cell? ⟨b0, o0, none⟩ = some (.slice a0 (Cv.deg L) c0) := by rw [Hb2.out.cell hbw0]; exact Hc0.out
    obtain ⟨n, hn0⟩ : ∃ n, Cv.deg L = n := ⟨_, rfl⟩
    have Hn := Lib.hid hn0
    rw [hn0] at c1 hd5
    clear hn0
    go_wp2
    go_loopw [3, 5, 12] (fun sv _ iv wr => ∃ i : Nat, i ≤ L.length ∧ iv = .int .i64 i ∧ sv = .int .i64 (Br.total (L.take i)) ∧ wr = w2) (fun _ _ iv _ => L.length - (intOf iv).toNat)
    case atStart => exact ⟨0, by omega, rfl, rfl, rfl⟩
    case round =>
      obtain ⟨i, hi, rfl, rfl, rfl⟩ := hrel
      by_cases hlt : i < L.length
      · obtain ⟨p, hp⟩ := get_some hlt
        have hp2 : (L.map Br.lens)[i]? = some (Br.lens p) := by rw [List.getElem?_map, hp]; rfl
        obtain ⟨b, o, ai, ci, rfl, hbw, hcell, _⟩ := Hg2.out.get hp2
        have hpl := (Hmem.out p (get_mem hp)).1
        have hcy := Br.cycles_le (p := p)
        have hdf : Br.defect p = (n : Int) - ((Br.lens p).length : Int) := by unfold Br.defect; rw [Br.lens_len, hpl, Hn.out]
        have hll : (Br.lens p).length ≤ n := by rw [Br.lens_len, ← Hn.out, ← hpl]; exact hcy
        have hst := Br.total_take hp
        have ht := Br.total_few HP.out i
        generalize Br.total (L.take i) = T at *
        generalize (Br.lens p).length = ll at *
        have e1 : IntKind.i64.wrap ((n : Int) - (ll : Int)) = (n : Int) - (ll : Int) := wrap_small (by omega) (by omega)
        have e2 : IntKind.i64.wrap (T + ((n : Int) - (ll : Int))) = T + ((n : Int) - (ll : Int)) := wrap_small (by omega) (by omega)
        have Hst := Lib.hid (show Br.total (L.take (i + 1)) = T + ((n : Int) - (ll : Int)) by rw [hst, hdf])
        have i0 : (0 : Int) ≤ (i : Int) := by omega
        have i1 : (i : Int) < (L.length : Int) := by omega
        clear hst hdf hp hp2 hpl hcy
        go_wp2
        go_roundw
        case rel => exact ⟨i + 1, by omega, by go_num, by rw [Hst.out], trivial⟩
        case measure => simp [intOf]; omega
      · obtain rfl : i = L.length := by omega
        rw [List.take_of_length_le (Nat.le_refl _)]
        go_wp2
        go_ret
        exact ⟨rfl, Hb2.out⟩
  · rw [decide_eq_false hP] at hcP
    rw [Br.bsum_not hP]
    have HcP := Lib.hid hcP
    clear hcP hP ha hL
    go_enter Tryz.func44, Tryz.ntmps44
    go_wp2_with fail
    refine HcP.out.mono ?_
    rintro e w1 ⟨rfl, hb1⟩
    have Hb1 := Lib.hid hb1; clear hb1
    go_wp2
    go_ret
    exact ⟨rfl, Hb1.out⟩
end Go.Proofs.YtpebgompfgkljaaGreat
namespace Go.Proofs.YtpebgompfgkljaaGreat
open Go.RowKit

theorem Br.perms_tot {L : List (List Int)} (h : Cv.Perms L) : tot L ≤ 1048576 := by
  have h1 : ∀ (M : List (List Int)), (∀ p ∈ M, p.length ≤ 5) → sumLen M ≤ M.length * 5 := by
    intro M
    induction M with
    | nil => intro _; simp [sumLen]
    | cons p M ih =>
      intro hM
      have e : sumLen (p :: M) = p.length + sumLen M := by simp [sumLen]
      have := hM p (List.mem_cons_self ..)
      have := ih fun q hq => hM q (List.mem_cons_of_mem _ hq)
      rw [e, List.length_cons]; omega
  have := h1 L fun p hp => by rw [(h.1 p hp).1]; exact h.2.2.2.2
  have := h.2.2.1
  unfold tot; omega
theorem Br.closed_of {L : List (List Int)} (h : Br.CloseOk L) : Br.closed L = L ++ [Br.last L] := if_pos h
theorem Br.closed_not {L : List (List Int)} (h : ¬ Br.CloseOk L) : Br.closed L = [] := if_neg h
set_option maxRecDepth 10000 in
set_option maxHeartbeats 2000000 in
theorem impl_CloseUp (a : Option Addr) (c : Nat) (L : List (List Int)) (w : World) (ha : GridAt w a L) (hL : ∀ p ∈ L, p.length ≤ 1048576) (hn : L.length ≤ 1048576) :
    Calls Tryz.prog 34 #[.slice a L.length c] w fun e w' => GivesRows2 w (Br.closed L) (decide (Br.CloseOk L)) e w' := by
  have hcP := impl_doPermute a c L w ha hL hn
  by_cases hP : Cv.Perms L
  · rw [decide_eq_true hP] at hcP
    obtain ⟨i0, hi0, hz0, hz1, hz2⟩ := info_ints_parts
    have Hi0 := Lib.hid hi0; have Hz0 := Lib.hid hz0; have Hz1 := Lib.hid hz1; have Hz2 := Lib.hid hz2
    have h1 := hP.2.1
    have h8 := hP.2.2.1
    have hd1 := hP.2.2.2.1
    have hd5 := hP.2.2.2.2
    have hC := fun W (h : Below w.heap.size w W) => impl_copyPermutations a c L W (ha.below h) (Br.perms_tot hP)
    have hR := fun W (hb : Below w.heap.size w W) => impl_productOf a c (Cv.deg L) L W (ha.below hb) (Br.alike hP) h1 (by omega) (by omega)
    have hpl : (Br.prod L (Cv.deg L)).length = Cv.deg L := Br.prod_len _ _
    have hI := fun b W (h : RowAt W b (intCells (Br.prod L (Cv.deg L)))) => impl_inverseOf b (Cv.deg L) (Br.prod L (Cv.deg L)) W h (Br.prod_isP (Br.alike hP)) (by omega) (by omega)
    rw [hpl, show Mp.mirror (Br.prod L (Cv.deg L)) = Br.last L from rfl] at hI
    have hrow : ∀ W g, Lab W g (Br.mul L) (Cv.deg L) → RowAt W (some ⟨g, 0, none⟩) (intCells (Br.prod L (Cv.deg L))) := fun W g h => h.row
    have hII := fun ga gc W (h : GridAt W ga (L ++ [Br.last L])) => impl_IsPassport ga gc (L ++ [Br.last L]) W h (fun p hp => by
      rcases List.mem_append.1 hp with hp | hp
      · exact hL p hp
      · rw [List.mem_singleton.1 hp, Br.last_len]; omega) (by simp; omega)
    rw [decide_eq_decide.2 (Br.pass_close hP)] at hII
    have hll : (L ++ [Br.last L]).length = L.length + 1 := by simp
    rw [hll] at hII
    have hcd : decide (Br.CloseOk L) = decide (L.length ≤ 4) := decide_eq_decide.2 ⟨fun h => h.1, fun h => ⟨h, hP⟩⟩
    have hlast := Br.last_len L
    rw [hcd]
    by_cases h4 : L.length ≤ 4
    · rw [Br.closed_of ⟨h4, hP⟩]
      rw [decide_eq_true h4] at hII ⊢
      clear hcd hpl
      generalize Br.last L = X at *
      generalize Br.prod L (Cv.deg L) = R at *
      generalize Br.mul L = mu at *
      generalize Cv.deg L = n at *
      have HcP := Lib.hid hcP; have HC := Lib.hid hC; have HR := Lib.hid hR; have HI := Lib.hid hI; have HII := Lib.hid hII; have Hrow := Lib.hid hrow; have Hlast := Lib.hid hlast; have Hll := Lib.hid hll
      clear hcP hC hR hI hII hrow hP ha hL hlast hi0 hz0 hz1 hz2 hll
      have hm1 : L.length + 1 ≤ maxLen := by unfold maxLen; omega
      have hm2 : (L.length + 1) * 24 ≤ 140737488355328 := by omega
      go_enter Tryz.func34, Tryz.ntmps34
      go_wp2_with fail
      refine HcP.out.mono ?_
      rintro e w1 ⟨rfl, hb1⟩
      have Hb1 := Lib.hid hb1; clear hb1
      go_wp2_with fail
      refine (HC.out w1 Hb1.out).mono ?_
      rintro e w2 ⟨rfl, hh2, hb2⟩
      have Hh2 := Lib.hid hh2; have Hb2 := Lib.hid (Hb1.out.trans (hb2.mono Hb1.out.size))
      have hNN : w1.heap.size ≤ w2.heap.size := hb2.size
      clear hh2 hb2
      go_wp2_with fail
      refine (HR.out w2 Hb2.out).mono ?_
      rintro e w3 ⟨rfl, hl3, hb3⟩
      have Hr3 := Lib.hid (Hrow.out _ _ hl3); have Hb3 := Lib.hid hb3
      clear hl3 hb3
      go_wp2_with fail
      refine (HI.out _ w3 Hr3.out).mono ?_
      rintro e w4 ⟨ra, rc, rfl, hlc, _, hf4, hb4⟩
      have Hlc := Lib.hid hlc
      have Hf4 := Lib.hid (hf4.mono Hb3.out.size); have Hb4 := Lib.hid (Hb3.out.trans (hb4.mono Hb3.out.size))
      rw [Hlast.out]
      clear hf4 hb4 hlc
      obtain ⟨hs, q1, q2, q3, q4⟩ := Hh2.out
      have Hown4 := Lib.hid (own_keep q2 Hb4.out (fun k hk => (q2.lt k hk).2))
      have Hq1 := Lib.hid q1; have Hq3 := Lib.hid q3; have Hq4 := Lib.hid q4
      have hN4 : w1.heap.size ≤ w4.heap.size := Nat.le_trans hNN Hb4.out.size
      clear q1 q2 q3 q4
      go_wp2_with (at_builtin; refine append_one rfl (.tmp 9) (.tmp 13) 24 rfl w1.heap.size 30 i0 _ 24 Tryz.underlying24 Hi0.out Hz0.out Hz1.out Hz2.out (by rfl) _ _ _ rfl Hown4.out (by rfl) _ rfl hm1 hm2 hN4 ?_; intro v1 w5 hown5 hg5 _; have Hg5 := Lib.hid hg5; have Hown5 := Lib.hid hown5; clear hg5 hown5)
      have hst := grid_step (c := rc) Hq3.out Hq4.out Hown4.out hNN Hf4.out Hb4.out Hg5.out Hlc.out
      have Hb5 := Lib.hid (Below.grown ((Hb2.out.trans (Hb4.out.mono Hb2.out.size)).alloc (Nat.le_trans Hb1.out.size hN4) (.cells #[.slice ra n rc] 30)) Hg5.out (by have := Hb1.out.size; simp; omega) (fun k hk => by have := (Hown4.out.lt k hk).1; have := Hb1.out.size; omega))
      have hheld : Held w5 w1.heap.size v1 (L ++ [X]) := ⟨hs ++ [⟨ra, rc, X⟩], by rw [List.map_append, Hq1.out]; rfl, by rw [Hll.out, ← hdCells_snoc]; have h := Hown5.out; rw [show Hd.val ⟨ra, rc, X⟩ = .slice ra n rc by rw [← Hlast.out]; rfl]; exact h, hst.1, hst.2⟩
      obtain ⟨ga, gc, rfl, hgc, hgm, hg⟩ := hheld.done
      have Hg := Lib.hid hg; have Hgc := Lib.hid hgc
      clear hheld hst hg hgc
      rw [Hll.out]
      go_wp2_with fail
      refine (HII.out ga gc w5 Hg.out.grid).mono ?_
      rintro e w6 ⟨rfl, hb6⟩
      have Hb6 := Lib.hid (Hb5.out.trans (hb6.mono Hb5.out.size)); have Hg6 := Lib.hid (Hg.out.below hb6); have hz := hb6.size
      clear hb6
      go_wp2
      go_ret2
      exact ⟨ga, gc, by rw [Hll.out]; rfl, Hgc.out, hgm, Hg6.out.mono Hb1.out.size hz, Hb6.out⟩
    · rw [Br.closed_not fun h => h4 h.1]
      rw [decide_eq_false h4] at hII ⊢
      clear hcd hpl
      generalize Br.last L = X at *
      generalize Br.prod L (Cv.deg L) = R at *
      generalize Br.mul L = mu at *
      generalize Cv.deg L = n at *
      have HcP := Lib.hid hcP; have HC := Lib.hid hC; have HR := Lib.hid hR; have HI := Lib.hid hI; have HII := Lib.hid hII; have Hrow := Lib.hid hrow; have Hlast := Lib.hid hlast; have Hll := Lib.hid hll
      clear hcP hC hR hI hII hrow hP ha hL hlast hi0 hz0 hz1 hz2 hll
      have hm1 : L.length + 1 ≤ maxLen := by unfold maxLen; omega
      have hm2 : (L.length + 1) * 24 ≤ 140737488355328 := by omega
      go_enter Tryz.func34, Tryz.ntmps34
      go_wp2_with fail
      refine HcP.out.mono ?_
      rintro e w1 ⟨rfl, hb1⟩
      have Hb1 := Lib.hid hb1; clear hb1
      go_wp2_with fail
      refine (HC.out w1 Hb1.out).mono ?_
      rintro e w2 ⟨rfl, hh2, hb2⟩
      have Hh2 := Lib.hid hh2; have Hb2 := Lib.hid (Hb1.out.trans (hb2.mono Hb1.out.size))
      have hNN : w1.heap.size ≤ w2.heap.size := hb2.size
      clear hh2 hb2
      go_wp2_with fail
      refine (HR.out w2 Hb2.out).mono ?_
      rintro e w3 ⟨rfl, hl3, hb3⟩
      have Hr3 := Lib.hid (Hrow.out _ _ hl3); have Hb3 := Lib.hid hb3
      clear hl3 hb3
      go_wp2_with fail
      refine (HI.out _ w3 Hr3.out).mono ?_
      rintro e w4 ⟨ra, rc, rfl, hlc, _, hf4, hb4⟩
      have Hlc := Lib.hid hlc
      have Hf4 := Lib.hid (hf4.mono Hb3.out.size); have Hb4 := Lib.hid (Hb3.out.trans (hb4.mono Hb3.out.size))
      rw [Hlast.out]
      clear hf4 hb4 hlc
      obtain ⟨hs, q1, q2, q3, q4⟩ := Hh2.out
      have Hown4 := Lib.hid (own_keep q2 Hb4.out (fun k hk => (q2.lt k hk).2))
      have Hq1 := Lib.hid q1; have Hq3 := Lib.hid q3; have Hq4 := Lib.hid q4
      have hN4 : w1.heap.size ≤ w4.heap.size := Nat.le_trans hNN Hb4.out.size
      clear q1 q2 q3 q4
      go_wp2_with (at_builtin; refine append_one rfl (.tmp 9) (.tmp 13) 24 rfl w1.heap.size 30 i0 _ 24 Tryz.underlying24 Hi0.out Hz0.out Hz1.out Hz2.out (by rfl) _ _ _ rfl Hown4.out (by rfl) _ rfl hm1 hm2 hN4 ?_; intro v1 w5 hown5 hg5 _; have Hg5 := Lib.hid hg5; have Hown5 := Lib.hid hown5; clear hg5 hown5)
      have hst := grid_step (c := rc) Hq3.out Hq4.out Hown4.out hNN Hf4.out Hb4.out Hg5.out Hlc.out
      have Hb5 := Lib.hid (Below.grown ((Hb2.out.trans (Hb4.out.mono Hb2.out.size)).alloc (Nat.le_trans Hb1.out.size hN4) (.cells #[.slice ra n rc] 30)) Hg5.out (by have := Hb1.out.size; simp; omega) (fun k hk => by have := (Hown4.out.lt k hk).1; have := Hb1.out.size; omega))
      have hheld : Held w5 w1.heap.size v1 (L ++ [X]) := ⟨hs ++ [⟨ra, rc, X⟩], by rw [List.map_append, Hq1.out]; rfl, by rw [Hll.out, ← hdCells_snoc]; have h := Hown5.out; rw [show Hd.val ⟨ra, rc, X⟩ = .slice ra n rc by rw [← Hlast.out]; rfl]; exact h, hst.1, hst.2⟩
      obtain ⟨ga, gc, rfl, hgc, hgm, hg⟩ := hheld.done
      have Hg := Lib.hid hg; have Hgc := Lib.hid hgc
      clear hheld hst hg hgc
      rw [Hll.out]
      go_wp2_with fail
      refine (HII.out ga gc w5 Hg.out.grid).mono ?_
      rintro e w6 ⟨rfl, hb6⟩
      have Hb6 := Lib.hid (Hb5.out.trans (hb6.mono Hb5.out.size))
      clear hb6
      go_wp2
      go_ret2
      exact GivesRows2.none Hb6.out (by unfold maxLen; omega)
  · rw [decide_eq_false hP] at hcP
    rw [Br.closed_not fun h => hP h.2, decide_eq_false fun h : Br.CloseOk L => hP h.2]
    have HcP := Lib.hid hcP
    clear hcP hP ha hL
    go_enter Tryz.func34, Tryz.ntmps34
    go_wp2_with fail
    refine HcP.out.mono ?_
    rintro e w1 ⟨rfl, hb1⟩
    have Hb1 := Lib.hid hb1; clear hb1
    go_wp2
    go_ret2
    exact GivesRows2.none Hb1.out (by unfold maxLen; omega)
end Go.Proofs.YtpebgompfgkljaaGreat
namespace Go.Proofs.YtpebgompfgkljaaGreat
open Go.RowKit

theorem Br.braid_of {L : List (List Int)} {k : Nat} {p q : List Int} (h : Br.BraidOk L (k : Int)) (hp : L[k]? = some p) (hq : L[k + 1]? = some q) : Br.braid L (k : Int) = (L.set k (Br.conj p q)).set (k + 1) p := by
  unfold Br.braid
  rw [if_pos h, Int.toNat_natCast]
  unfold Br.braided
  rw [List.getD_eq_getElem?_getD, List.getD_eq_getElem?_getD, hp, hq]; rfl
theorem Br.braid_not {L : List (List Int)} {k : Int} (h : ¬ Br.BraidOk L k) : Br.braid L k = [] := if_neg h
theorem Br.conj_alike {n : Nat} {p q : List Int} (hp : p.length = n ∧ Mp.IsP p) (hq : q.length = n ∧ Mp.IsP q) : Br.Alike n [p, q, Mp.mirror p] := fun r hr => by
  simp only [List.mem_cons, List.not_mem_nil, or_false] at hr
  rcases hr with rfl | rfl | rfl
  · exact hp
  · exact hq
  · exact ⟨by rw [Mp.mirror_len]; exact hp.1, Cv.mirror_isP hp.2⟩
set_option maxRecDepth 10000 in
set_option maxHeartbeats 2000000 in
theorem impl_BraidPassport (a : Option Addr) (c : Nat) (L : List (List Int)) (k : Int) (w : World) (ha : GridAt w a L) (hL : ∀ p ∈ L, p.length ≤ 1048576) (hn : L.length ≤ 1048576) (hk0 : -9223372036854775808 ≤ k) (hk1 : k ≤ 9223372036854775807) :
    Calls Tryz.prog 37 #[.slice a L.length c, .int .i64 k] w fun e w' => GivesRows2 w (Br.braid L k) (decide (Br.BraidOk L k)) e w' := by
  have hcP := impl_IsPassport a c L w ha hL hn
  have e2 : IntKind.i64.wrap ((L.length : Int) - 2) = (L.length : Int) - 2 := wrap_small (by omega) (by omega)
  by_cases hP : Br.Pass L
  · rw [decide_eq_true hP] at hcP
    by_cases h0 : 0 ≤ k
    · by_cases h1 : k ≤ (L.length : Int) - 2
      · obtain ⟨K, rfl⟩ : ∃ K : Nat, k = (K : Int) := ⟨k.toNat, by omega⟩
        have hok : Br.BraidOk L (K : Int) := ⟨hP, h0, h1⟩
        obtain ⟨p, hp⟩ := get_some (show K < L.length by omega)
        obtain ⟨q, hq⟩ := get_some (show K + 1 < L.length by omega)
        rw [Br.braid_of hok hp hq, decide_eq_true hok]
        have hpm := hP.2.1.1 p (get_mem hp)
        have hqm := hP.2.1.1 q (get_mem hq)
        have hd1 := hP.2.1.2.2.2.1
        have hd5 := hP.2.1.2.2.2.2
        have h5 := hP.1
        have hC := fun W (h : Below w.heap.size w W) => impl_copyPermutations a c L W (ha.below h) (Br.perms_tot hP.2.1)
        have hI := fun b cc W (h : RowAt W b (intCells p)) => impl_inverseOf b cc p W h hpm.2 (by omega) (by omega)
        have hR := fun ga W (h : GridAt W ga [p, q, Mp.mirror p]) => impl_productOf ga 3 (Cv.deg L) [p, q, Mp.mirror p] W h (Br.conj_alike hpm hqm) (by simp) (by simp) (by omega)
        rw [hpm.1] at hI
        rw [show [p, q, Mp.mirror p].length = 3 from rfl] at hR
        have hcj : ∀ W g, Lab W g (Br.mul [p, q, Mp.mirror p]) (Cv.deg L) → RowIn W g (g + 1) 3 (some ⟨g, 0, none⟩) (intCells (Br.conj p q)) := fun W g h => by
          rw [Br.conj_prod, hpm.1]
          obtain ⟨all, h1, h2⟩ := h
          refine Or.inr ⟨g, 0, all, rfl, Nat.le_refl _, Nat.lt_succ_self _, h1, fun i v hv => ?_⟩
          have hi : i < Cv.deg L := by
            have := (List.getElem?_eq_some_iff.1 hv).1
            rwa [intCells_len, Br.prod_len] at this
          rw [Nat.zero_add, h2 i hi]
          rw [intCells_get (by rw [Br.prod_len]; exact hi)] at hv
          have hr : (Br.prod [p, q, Mp.mirror p] (Cv.deg L))[i]'(by rw [Br.prod_len]; exact hi) = ((Br.mul [p, q, Mp.mirror p] i : Nat) : Int) := by simp [Br.prod, Cls.row]
          rw [hr] at hv
          exact hv
        have hxl : (Br.conj p q).length = Cv.deg L := by rw [Br.conj_len]; exact hpm.1
        have hml : (Mp.mirror p).length = Cv.deg L := by rw [Mp.mirror_len]; exact hpm.1
        have hpl := hpm.1
        have hql := hqm.1
        generalize Br.mul [p, q, Mp.mirror p] = mu at *
        generalize Br.conj p q = X at *
        generalize Mp.mirror p = pi at *
        generalize Cv.deg L = n at *
        have e3 : IntKind.i64.wrap ((K : Int) + 1) = ((K + 1 : Nat) : Int) := by rw [wrap_small (by omega) (by omega)]; omega
        have t1 : decide ((K : Int) < 0) = false := decide_eq_false (by omega)
        have t2 : decide ((L.length : Int) - 2 < (K : Int)) = false := decide_eq_false (by omega)
        have k0 : (0 : Int) ≤ (K : Int) := by omega
        have k1 : (K : Int) < (L.length : Int) := by omega
        have k2 : (0 : Int) ≤ (K : Int) + 1 := by omega
        have k3 : (K : Int) + 1 < (L.length : Int) := by omega
        have HcP := Lib.hid hcP; have HC := Lib.hid hC; have HI := Lib.hid hI; have HR := Lib.hid hR; have Hcj := Lib.hid hcj; have Hxl := Lib.hid hxl; have Hml := Lib.hid hml; have Hpl := Lib.hid hpl; have Hql := Lib.hid hql; have Hp := Lib.hid hp; have Hq := Lib.hid hq
        clear hcP hC hI hR hcj hP ha hL hok hp hq hpm hqm hxl hml hpl hql h0 h1
        go_enter Tryz.func37, Tryz.ntmps37
        go_wp2_with fail
        refine HcP.out.mono ?_
        rintro e w1 ⟨rfl, hb1⟩
        have Hb1 := Lib.hid hb1; clear hb1
        go_wp2_with fail
        refine (HC.out w1 Hb1.out).mono ?_
        rintro e w2 ⟨rfl, hh2, hb2⟩
        obtain ⟨hs, hsl, hh, hap⟩ := hh2.hold
        have Hb2 := Lib.hid (Hb1.out.trans (hb2.mono Hb1.out.size)); have Hb12 := Lib.hid hb2
        have Hhs := Lib.hid hsl; have Hh := Lib.hid hh; have Hap := Lib.hid hap
        clear hh2 hsl hh hap hb2
        obtain ⟨x, hx, hxe⟩ : ∃ x, hs[K]? = some x ∧ x.l = p := by
          have h := Hp.out
          rw [← Hhs.out, List.getElem?_map] at h
          cases he : hs[K]? with
          | none => rw [he] at h; cases h
          | some x => rw [he] at h; exact ⟨x, rfl, Option.some.inj h⟩
        obtain ⟨y, hy, hye⟩ : ∃ y, hs[K + 1]? = some y ∧ y.l = q := by
          have h := Hq.out
          rw [← Hhs.out, List.getElem?_map] at h
          cases he : hs[K + 1]? with
          | none => rw [he] at h; cases h
          | some x => rw [he] at h; exact ⟨x, rfl, Option.some.inj h⟩
        have c1 := Hh.out.cell hx
        have c2 := Hh.out.cell hy
        rw [hxe, Hpl.out] at c1
        rw [hye, Hql.out] at c2
        have Hx := Lib.hid hx; have Hy1 := Lib.hid hy; have Hxe := Lib.hid hxe; have Hye := Lib.hid hye
        have Hrx := Lib.hid (show RowIn w2 w1.heap.size w2.heap.size 3 x.a (intCells p) from by rw [← hxe]; exact Hh.out.2 x (get_mem hx))
        have Hry := Lib.hid (show RowAt w2 y.a (intCells q) from by rw [← hye]; exact (Hh.out.2 y (get_mem hy)).row)
        clear hx hxe hy hye
        go_wp2
        go_quiet (fail)
        go_wp2_with fail
        refine (HI.out x.a x.c _ (Hrx.out.row.below (below_drewN (Below.refl _ _) _))).mono ?_
        rintro e w3 ⟨ra, rc, rfl, hlc, _, hf3, hb3⟩
        have Hb3 := Lib.hid (show Below w2.heap.size w2 w3 from (below_drewN (Below.refl _ _) _).trans hb3)
        have Hf3 := Lib.hid hf3.row
        rw [Hml.out]
        clear hlc hf3 hb3
        have Hg3 := Lib.hid (grid_lit3 (c1 := x.c) (c2 := y.c) (c3 := rc) (Hrx.out.row.below Hb3.out) (Hry.out.below Hb3.out) Hf3.out Hpl.out Hql.out Hml.out)
        go_wp2_with fail
        refine (HR.out _ _ Hg3.out).mono ?_
        rintro e w4 ⟨rfl, hl4, hb4⟩
        have Hr4 := Lib.hid (Hcj.out _ _ hl4)
        have hl4' := hl4.lt
        have hsz3 : (w3.alloc (.cells #[.slice x.a n x.c, .slice y.a n y.c, .slice ra n rc] 30)).heap.size = w3.heap.size + 1 := by simp
        have Hb4 := Lib.hid (show Below w2.heap.size w2 w4 from (Hb3.out.alloc Hb3.out.size _).trans (hb4.mono (by have := Hb3.out.size; omega)))
        obtain ⟨G, hG⟩ : ∃ G, (w3.alloc (.cells #[.slice x.a n x.c, .slice y.a n y.c, .slice ra n rc] 30)).heap.size = G := ⟨_, rfl⟩
        have hG2 : w2.heap.size ≤ G := by have := Hb3.out.size; omega
        rw [hG] at Hr4 hl4'
        rw [hG]
        clear hl4 hb4 hG hsz3 Hg3 Hf3
        have Hh4 := Lib.hid (Hh.out.below Hb4.out)
        have hfz4 := Hh4.out.frozen K
        have c4 := Hh4.out.cell Hx.out
        have hh5 := Hh4.out.set (p := K) (x := ⟨some ⟨G, 0, none⟩, n, X⟩) (Hr4.out.mono (by have := Hb12.out.size; omega) hl4')
        simp only [Hxl.out] at hh5
        have hrx5 := Hh4.out.far (p := K) (v := .slice (some ⟨G, 0, none⟩) n n) ((Hrx.out.below Hb4.out).mono (Nat.le_refl _) Hb4.out.size)
        have hy5 : (hs.set K ⟨some ⟨G, 0, none⟩, n, X⟩)[K + 1]? = some y := by
          rw [List.getElem?_set_ne (by omega)]
          exact Hy1.out
        have c5 := hh5.cell hy5
        have hfz5 := hh5.frozen (K + 1)
        have hh6 := hh5.set (p := K + 1) (x := x) (by
          rw [Hxe.out]
          refine hrx5.mono (Nat.le_refl _) ?_
          simp [World.setCell])
        rw [Hxe.out, Hpl.out] at hh6
        have hap6 := Apts.braid (x := ⟨some ⟨G, 0, none⟩, n, X⟩) Hap.out Hx.out (by have h := congrArg List.length Hhs.out; rw [List.length_map] at h; omega) (fun z hz => apart_new (Hh.out.2 z hz) (Hr4.out.mono hG2 (Nat.le_refl _))) (by show X.length ≤ n; rw [Hxl.out]; exact Nat.le_refl _)
        have hh7 := hh6.held hap6
        rw [List.map_set, List.map_set, Hhs.out, Hxe.out] at hh7
        have hb7 := ((Hb2.out.trans (Hb4.out.mono Hb2.out.size)).setCell (p := ⟨w1.heap.size, K, none⟩) Hb1.out.size (.slice (some ⟨G, 0, none⟩) n n)).setCell (p := ⟨w1.heap.size, K + 1, none⟩) Hb1.out.size (.slice x.a n x.c)
        have Hh7 := Lib.hid hh7; have Hb7 := Lib.hid hb7
        clear hh5 hrx5 hy5 hh6 hap6 hh7 hb7
        go_wp2
        go_ret2
        obtain ⟨ga, gc, he, hgc, hgm, hg⟩ := Hh7.out.done
        have hls : ((L.set K X).set (K + 1) p).length = L.length := by simp
        rw [hls] at he hgc
        cases he
        exact ⟨_, _, by rw [hls]; rfl, by rw [hls]; exact hgc, hgm, hg.mono Hb1.out.size (Nat.le_refl _), Hb7.out⟩
      · have hno : ¬ Br.BraidOk L k := fun h => h1 h.2.2
        rw [Br.braid_not hno, decide_eq_false hno]
        have t1 : decide (k < 0) = false := decide_eq_false (by omega)
        have t2 : decide ((L.length : Int) - 2 < k) = true := decide_eq_true (by omega)
        have HcP := Lib.hid hcP
        clear hcP hP ha hL hno h0 h1
        go_enter Tryz.func37, Tryz.ntmps37
        go_wp2_with fail
        refine HcP.out.mono ?_
        rintro e w1 ⟨rfl, hb1⟩
        have Hb1 := Lib.hid hb1; clear hb1
        go_wp2
        go_ret2
        exact GivesRows2.none Hb1.out (by unfold maxLen; omega)
    · have hno : ¬ Br.BraidOk L k := fun h => h0 h.2.1
      rw [Br.braid_not hno, decide_eq_false hno]
      have t1 : decide (k < 0) = true := decide_eq_true (by omega)
      have HcP := Lib.hid hcP
      clear hcP hP ha hL hno h0
      go_enter Tryz.func37, Tryz.ntmps37
      go_wp2_with fail
      refine HcP.out.mono ?_
      rintro e w1 ⟨rfl, hb1⟩
      have Hb1 := Lib.hid hb1; clear hb1
      go_wp2
      go_ret2
      exact GivesRows2.none Hb1.out (by unfold maxLen; omega)
  · have hno : ¬ Br.BraidOk L k := fun h => hP h.1
    rw [decide_eq_false hP] at hcP
    rw [Br.braid_not hno, decide_eq_false hno]
    have HcP := Lib.hid hcP
    clear hcP hP ha hL hno
    go_enter Tryz.func37, Tryz.ntmps37
    go_wp2_with fail
    refine HcP.out.mono ?_
    rintro e w1 ⟨rfl, hb1⟩
    have Hb1 := Lib.hid hb1; clear hb1
    go_wp2
    go_ret2
    exact GivesRows2.none Hb1.out (by unfold maxLen; omega)
set_option maxRecDepth 10000 in
set_option maxHeartbeats 1000000 in
theorem impl_exchangeOfMates (n : Nat) (w : World) (hn : n ≤ 60) :
    Calls Tryz.prog 108 #[.int .i64 (n : Int)] w fun e w' => Gives w (Br.mates n) e w' := by
  have hmk := mk_zerosP n (by omega)
  have hst := Lab.of_blk (Blk.new w 3 (intCells (Cls.row (fun _ => 0) n)).toArray)
  have hb0 := (Below.refl w.heap.size w).alloc (Nat.le_refl _) (.cells (intCells (Cls.row (fun _ => 0) n)).toArray 3)
  have hgv := fun w' (h : Lab w' w.heap.size (fun k => if k < n then Mp.mate k else 0) n) (hb : Below w.heap.size w w') => lab_givesP (h.congr (v := Mp.mate) fun k hk => by rw [if_pos hk]) (Nat.le_refl _) (by unfold maxLen; omega) hb
  generalize hN : w.heap.size = N at *
  have HN := Lib.hid hN
  have Hst := Lib.hid hst; have Hb0 := Lib.hid hb0; have Hgv := Lib.hid hgv
  clear hst hb0 hgv
  go_enter Tryz.func108, Tryz.ntmps108
  go_wp2
  go_loopw [4, 9] (fun _ iv wr => ∃ i : Nat, i ≤ n ∧ iv = .int .i64 i ∧ Hid (Below N w wr) ∧ Hid (Lab wr N (fun k => if k < i then Mp.mate k else 0) n)) (fun _ iv _ => n - (intOf iv).toNat)
  case atStart => exact ⟨0, by omega, rfl, Hb0, Lib.hid (Hst.out.congr fun k _ => by simp)⟩
  case round =>
    obtain ⟨i, hi, rfl, hb, hk⟩ := hrel
    by_cases hlt : i < n
    · have hm := fun W => impl_mateOf i _ rfl W (by omega)
      have hdst := hk.out.cell hlt
      have hfz := hk.out.frozen i
      have hput := (hk.out.put (i := i) (b := Mp.mate i) hlt).congr (v := fun k => if k < i + 1 then Mp.mate k else 0) fun k _ => by
        by_cases e : k = i
        · subst e; rw [if_pos rfl, if_pos (by omega)]
        · rw [if_neg e]
          by_cases e2 : k < i
          · rw [if_pos e2, if_pos (by omega)]
          · rw [if_neg e2, if_neg (by omega)]
      have hset := hb.out.setCell (p := ⟨N, i, none⟩) (Nat.le_refl _) (.int .i64 ((Mp.mate i : Nat) : Int))
      have Hput := Lib.hid hput; have Hset := Lib.hid hset; have Hm := Lib.hid hm
      clear hput hset hm
      generalize Mp.mate i = m at *
      have j0 : (0 : Int) ≤ (i : Int) := by omega
      have j1 : (i : Int) < (n : Int) := by omega
      go_wp2_with fail
      refine (Hm.out _).mono ?_
      rintro e w1 ⟨rfl, hw1⟩
      rw [hw1]; clear hw1 w1
      go_wp2
      go_roundw
      case rel => exact ⟨i + 1, by omega, by go_num, Hset, Hput⟩
      case measure => simp [intOf]; omega
    · obtain rfl : i = n := by omega
      go_wp2
      go_ret
      exact Hgv.out _ hk.out hb.out
theorem Br.map_of {m : List Int} (h : Br.MapOk m) : Br.mapPass m = Br.closed [m, Br.mates m.length] := if_pos h
theorem Br.map_not {m : List Int} (h : ¬ Br.MapOk m) : Br.mapPass m = [] := if_neg h
theorem Br.map_closed {m : List Int} (h : Mp.IsM m) : Br.closed [m, Br.mates m.length] = Br.mapPass m ∧ decide (Br.CloseOk [m, Br.mates m.length]) = decide (Br.MapOk m) := by
  have h1 := Br.map_ok h
  by_cases h5 : m.length ≤ 5
  · exact ⟨(Br.map_of ⟨h, h5⟩).symm, decide_eq_decide.2 ⟨fun _ => ⟨h, h5⟩, fun _ => h1.2 h5⟩⟩
  · refine ⟨?_, decide_eq_decide.2 ⟨fun hc => absurd (h1.1 hc) h5, fun hm => absurd hm.2 h5⟩⟩
    rw [Br.map_not fun hm => h5 hm.2]
    unfold Br.closed
    rw [if_neg fun hc => h5 (h1.1 hc)]
set_option maxRecDepth 10000 in
set_option maxHeartbeats 1000000 in
theorem impl_MapPassport (a : Option Addr) (c : Nat) (m : List Int) (w : World) (ha : RowAt w a (intCells m)) (hl : m.length ≤ 1048576) :
    Calls Tryz.prog 40 #[.slice a m.length c] w fun e w' => GivesRows2 w (Br.mapPass m) (decide (Br.MapOk m)) e w' := by
  have hM := impl_IsMap a c m w ha hl
  by_cases hm : Mp.IsM m
  · rw [decide_eq_true hm] at hM
    rw [← (Br.map_closed hm).1, ← (Br.map_closed hm).2]
    have h24 := hm.2.1
    have hX := fun W => impl_exchangeOfMates m.length W (by omega)
    have hC := fun ga W (h : GridAt W ga [m, Br.mates m.length]) => impl_CloseUp ga 2 [m, Br.mates m.length] W h (fun p hp => by
      simp only [List.mem_cons, List.not_mem_nil, or_false] at hp
      rcases hp with rfl | rfl
      · exact hl
      · rw [Br.mates_len]; exact hl) (by simp)
    rw [show [m, Br.mates m.length].length = 2 from rfl] at hC
    have hml := Br.mates_len m.length
    generalize decide (Br.CloseOk [m, Br.mates m.length]) = B at *
    generalize Br.closed [m, Br.mates m.length] = Z at *
    generalize Br.mates m.length = M at *
    have HM := Lib.hid hM; have HX := Lib.hid hX; have HC := Lib.hid hC; have Hml := Lib.hid hml; have Ha := Lib.hid ha
    clear hM hX hC hml ha hm
    go_enter Tryz.func40, Tryz.ntmps40
    go_wp2_with fail
    refine HM.out.mono ?_
    rintro e w1 ⟨rfl, hb1⟩
    have Hb1 := Lib.hid hb1; clear hb1
    go_wp2_with fail
    refine (HX.out w1).mono ?_
    rintro e w2 ⟨ra, rc, rfl, _, _, hf2, hb2⟩
    rw [Hml.out]
    have Hb2 := Lib.hid (Hb1.out.trans (hb2.mono Hb1.out.size)); have Hf2 := Lib.hid hf2.row
    clear hf2 hb2
    have Hg := Lib.hid (grid_lit2 (c1 := c) (c2 := rc) (Ha.out.below Hb2.out) Hf2.out rfl Hml.out)
    have Hal := Lib.hid (Hb2.out.alloc Hb2.out.size (.cells #[.slice a m.length c, .slice ra m.length rc] 30))
    go_wp2_with fail
    refine (HC.out _ _ Hg.out).mono ?_
    rintro e w3 ⟨ga, gc, rfl, hgc, hgm, hg3, hb3⟩
    have Hg3 := Lib.hid (hg3.mono Hal.out.size (Nat.le_refl _)); have Hb3 := Lib.hid (Hal.out.trans (hb3.mono Hal.out.size))
    clear hg3 hb3
    go_wp2
    go_ret2
    exact ⟨ga, gc, rfl, hgc, hgm, Hg3.out, Hb3.out⟩
  · rw [decide_eq_false hm] at hM
    rw [Br.map_not fun h => hm h.1, decide_eq_false fun h : Br.MapOk m => hm h.1]
    have HM := Lib.hid hM
    clear hM hm ha
    go_enter Tryz.func40, Tryz.ntmps40
    go_wp2_with fail
    refine HM.out.mono ?_
    rintro e w1 ⟨rfl, hb1⟩
    have Hb1 := Lib.hid hb1; clear hb1
    go_wp2
    go_ret2
    exact GivesRows2.none Hb1.out (by unfold maxLen; omega)
end Go.Proofs.YtpebgompfgkljaaGreat
namespace Go.Proofs.YtpebgompfgkljaaGreat
open Go.RowKit

theorem Br.parts_pos {L : List (List Int)} (h : Cv.Perms L) : 1 ≤ (Cv.partsN L).length := by
  unfold Cv.partsN Cv.classes
  rw [List.length_map]
  have : 0 ∈ Cv.firsts (Cv.lab L) (Cv.deg L) := List.mem_filter.2 ⟨List.mem_range.2 (by have := h.2.2.2.1; omega), decide_eq_true fun k hk => absurd hk (by omega)⟩
  exact List.length_pos_of_mem this
theorem Br.cover_of {L : List (List Int)} (h : Br.CoverOk L) : Br.cover L = ((2 - 2 * (Cv.deg L : Int) + Br.total L).tdiv 2, 0, 0) := if_pos h
theorem Br.cover_not {L : List (List Int)} (h : ¬ Br.CoverOk L) : Br.cover L = (0, 0, 0) := if_neg h
theorem below_p3 {N g : Nat} {w w1 : World} (h : Below N w w1) (hg : N ≤ g) (x y z : Value) : Below N w (((w1.setCell ⟨g, 0, none⟩ x).setCell ⟨g, 1, none⟩ y).setCell ⟨g, 2, none⟩ z) :=
  ((h.setCell (p := ⟨g, 0, none⟩) hg x).setCell (p := ⟨g, 1, none⟩) hg y).setCell (p := ⟨g, 2, none⟩) hg z
set_option maxRecDepth 10000 in
set_option maxHeartbeats 2000000 in
theorem impl_BranchCover (a : Option Addr) (c : Nat) (L : List (List Int)) (w : World) (ha : GridAt w a L) (hL : ∀ p ∈ L, p.length ≤ 1048576) (hn : L.length ≤ 1048576) :
    Calls Tryz.prog 31 #[.slice a L.length c] w fun e w' => GivesS w (Br.cover L) (decide (Br.CoverOk L)) e w' := by
  have hP0 := fun W (hb : Below w.heap.size w W) => impl_IsPassport a c L W (ha.below hb) hL hn
  generalize hN : w.heap.size = N at *
  have HN := Lib.hid hN
  by_cases hP : Br.Pass L
  · rw [decide_eq_true hP] at hP0
    have hS := fun W (hb : Below N w W) => impl_SheetParts a c L W (ha.below (by rw [hN]; exact hb)) hL hn
    have hpt : Cv.parts L = Mp.natRows (Cv.partsN L) := if_pos hP.2.1
    rw [hpt] at hS
    have hsz : (Mp.natRows (Cv.partsN L)).length = (Cv.partsN L).length := by simp [Mp.natRows]
    have hpos := Br.parts_pos hP.2.1
    have hd1 := hP.2.1.2.1
    have hd5 := hP.2.1.2.2.2.2
    by_cases h1 : (Cv.partsN L).length = 1
    · have hok : Br.CoverOk L := ⟨hP, h1⟩
      rw [Br.cover_of hok, decide_eq_true hok]
      have hB := fun W (hb : Below N w W) => impl_BranchSum a c L W (ha.below (by rw [hN]; exact hb)) hL hn
      rw [Br.bsum_of hP] at hB
      have ht := Br.total_all hP
      rw [h1] at hsz
      obtain ⟨r0, hr0, hr0l⟩ := Cv.head_get (L := L) (by omega)
      obtain ⟨b0, o0, a0, c0, rfl, hbw0, hcell0, _⟩ := ha.get hr0
      rw [Nat.add_zero, hr0l] at hcell0
      have i2 : 0 < L.length := by omega
      have he0 := fun W => impl_EulerNumber 0 0 0 W (by intro x hx; simp at hx; omega)
      rw [show Surf.euler 0 0 0 = 2 by decide] at he0
      generalize Cv.deg L = n at *
      generalize Br.total L = t at *
      generalize Mp.natRows (Cv.partsN L) = R at *
      obtain ⟨M2, hM2⟩ : ∃ M2 : Int, 2 * (n : Int) = M2 := ⟨_, rfl⟩
      obtain ⟨D, hD⟩ : ∃ D : Int, M2 - t = D := ⟨_, rfl⟩
      obtain ⟨T, hT⟩ : ∃ T : Int, 2 - D = T := ⟨_, rfl⟩
      obtain ⟨H, hH⟩ : ∃ H : Int, T.tdiv 2 = H := ⟨_, rfl⟩
      have hTe : 2 - 2 * (n : Int) + t = T := by omega
      rw [hTe, hH]
      have hHb : -100 ≤ H ∧ H ≤ 100 := by
        rw [← hH]
        constructor
        · rcases Int.le_total 0 T with h | h
          · have := Int.tdiv_nonneg h (show (0 : Int) ≤ 2 by decide); omega
          · have := Int.neg_tdiv T 2
            have h2 := Int.tdiv_le_self (a := -T) 2 (by omega)
            omega
        · rcases Int.le_total 0 T with h | h
          · have h2 := Int.tdiv_le_self (a := T) 2 h; omega
          · have := Int.neg_tdiv T 2
            have := Int.tdiv_nonneg (show 0 ≤ -T by omega) (show (0 : Int) ≤ 2 by decide)
            omega
      have e1 : IntKind.i64.wrap (2 * (n : Int)) = M2 := by rw [hM2]; exact wrap_small (by omega) (by omega)
      have e2 : IntKind.i64.wrap (M2 - t) = D := by rw [hD]; exact wrap_small (by omega) (by omega)
      have e3 : IntKind.i64.wrap (2 - D) = T := by rw [hT]; exact wrap_small (by omega) (by omega)
      have e4 : IntKind.i64.wrap H = H := wrap_small (by omega) (by omega)
      have HP0 := Lib.hid hP0; have HS := Lib.hid hS; have HB := Lib.hid hB; have HE0 := Lib.hid he0; have Hsz := Lib.hid hsz; have Hc0 := Lib.hid hcell0
      clear hP0 hS hB he0 hpt hsz hpos hP h1 hok ha hL hr0 hr0l hcell0 hTe hHb hM2 hD hT hd1 hd5 ht
      go_enter Tryz.func31, Tryz.ntmps31
      have hz0 := Blk.new' hN 46 #[.int .i64 0, .int .i64 0, .int .i64 0]
      have hl0 : Below N w (w.alloc (.cells #[.int .i64 0, .int .i64 0, .int .i64 0] 46)) := by
        have h := (Below.refl w.heap.size w).alloc (Nat.le_refl _) (.cells #[.int .i64 0, .int .i64 0, .int .i64 0] 46)
        rwa [hN] at h
      have HZ0 := Lib.hid hz0; have Hl0 := Lib.hid hl0; clear hz0 hl0
      go_wp2_with fail
      refine (HP0.out _ Hl0.out).mono ?_
      rintro e w1 ⟨rfl, hb1⟩
      have HZ1 := Lib.hid (HZ0.out.below hb1 HZ0.out.lt)
      have Hl1 := Lib.hid (Hl0.out.trans (hb1.mono (Nat.le_of_lt HZ0.out.lt)))
      clear hb1
      go_wp2_with fail
      refine (HS.out _ Hl1.out).mono ?_
      rintro e w2 ⟨pa, pc, rfl, _, _, _, hb2⟩
      rw [Hsz.out]
      have HZ2 := Lib.hid (HZ1.out.below hb2 HZ1.out.lt)
      have Hl2 := Lib.hid (Hl1.out.trans (hb2.mono (Nat.le_of_lt HZ1.out.lt)))
      clear hb2 HZ0 Hl0 HZ1 Hl1
      generalize hM : w2.heap.size = M at *
      have HM := Lib.hid hM
      have hz := HZ2.out.alloc (.cells #[.int .i64 0, .int .i64 0, .int .i64 0] 46)
      have hm := Blk.new' hM 46 #[.int .i64 0, .int .i64 0, .int .i64 0]
      have hl := Hl2.out.alloc (by have := HZ2.out.lt; omega) (.cells #[.int .i64 0, .int .i64 0, .int .i64 0] 46)
      have hNM := Lib.hid (show N < M by have := HZ2.out.lt; have := HM.out; omega)
      have HZ3 := Lib.hid hz; have HM3 := Lib.hid hm; have Hl3 := Lib.hid hl
      clear hz hm hl HZ2 Hl2
      obtain ⟨W3, hW3⟩ : ∃ W3, w2.alloc (.cells #[.int .i64 0, .int .i64 0, .int .i64 0] 46) = W3 := ⟨_, rfl⟩
      rw [hW3] at HZ3 HM3 Hl3
      have hSS : ∀ W, Below W3.heap.size W3 W → W.cell? ⟨b0, o0, none⟩ = some (.slice a0 n c0) ∧ W.cell? ⟨M, 0, none⟩ = some (.int .i64 0) ∧ W.cell? ⟨M, 1, none⟩ = some (.int .i64 0) ∧ W.cell? ⟨M, 2, none⟩ = some (.int .i64 0) := fun W hb => by
        have h2 := HM3.out.below hb HM3.out.lt
        have hl := Hl3.out.trans (hb.mono (Nat.le_of_lt HZ3.out.lt))
        exact ⟨by rw [hl.cell (by rw [← HN.out]; exact hbw0)]; exact Hc0.out, h2.cell 0, h2.cell 1, h2.cell 2⟩
      have HSS := Lib.hid hSS
      have hBd := Below.drew (Below.refl W3.heap.size W3)
      have HSd := Lib.hid (hSS _ hBd)
      have HBW := Lib.hid (fun W (hb : Below W3.heap.size W3 W) => HB.out W (Hl3.out.trans (hb.mono (Nat.le_of_lt HZ3.out.lt))))
      clear hSS
      go_upto_region 4 with fail
      clear hW3
      go_region_held3 (fun w' => w'.cell? ⟨b0, o0, none⟩ = some (.slice a0 n c0) ∧ w'.cell? ⟨M, 0, none⟩ = some (.int .i64 0) ∧ w'.cell? ⟨M, 1, none⟩ = some (.int .i64 0) ∧ w'.cell? ⟨M, 2, none⟩ = some (.int .i64 0)) (first | (with_reducible assumption) | (with_reducible exact HSd.out)) (first
        | (go_at_call 98; refine (HE0.out _).mono ?_; rintro e w4 ⟨rfl, hb4⟩; have hB4 := hB5.trans (hb4.mono hB5.size); have hS4 := HSS.out _ hB4)
        | (go_at_call 98; refine (HE0.out _).mono ?_; rintro e w4 ⟨rfl, hb4⟩; have hB4 := hBd.trans (hb4.mono hBd.size); have hS4 := HSS.out _ hB4)
        | (go_at_call 44; refine (HBW.out _ hB4).mono ?_; rintro e w5 ⟨rfl, hb5⟩; have hB5 := hB4.trans (hb5.mono hB4.size); have hS5 := HSS.out _ hB5)
        | (go_at_call 44; refine (HBW.out _ hBd).mono ?_; rintro e w5 ⟨rfl, hb5⟩; have hB5 := hBd.trans (hb5.mono hBd.size); have hS5 := HSS.out _ hB5))
      have h2 := HM3.out.below hB5 HM3.out.lt
      have h0 := HZ3.out.below hB5 HZ3.out.lt
      have hb6 := Hl3.out.trans (hB5.mono (Nat.le_of_lt HZ3.out.lt))
      have fz := h2.frozen 0
      have fn0 := h0.frozen 0; have fn1 := h0.frozen 1; have fn2 := h0.frozen 2
      obtain ⟨_, _, _, _, _, _⟩ := h0.six
      have hlt : N ≠ M := by have := hNM.out; omega
      have hlt' : N < M := hNM.out
      have HB2 := Lib.hid h2; have HB0 := Lib.hid h0; have HB6 := Lib.hid hb6
      clear h2 h0 hb6 hS5 hB5 hB4 hS4 HSS HSd HBW hBd
      subst hH
      go_wp2
      have hZ7 := (HB0.out.far (p := ⟨M, 0, none⟩) hlt (.int .i64 (T.tdiv 2))).put3 (x := .int .i64 (T.tdiv 2)) (y := .int .i64 0) (z := .int .i64 0)
      have hl7 := below_p3 (HB6.out.setCell (p := ⟨M, 0, none⟩) (Nat.le_of_lt hlt') (.int .i64 (T.tdiv 2))) (g := N) (Nat.le_refl N) (.int .i64 (T.tdiv 2)) (.int .i64 0) (.int .i64 0)
      exact bodyPost_ret (results_cell_tmp rfl _ _ N 46 #[.int .i64 (T.tdiv 2), .int .i64 0, .int .i64 0] (0, 0) _ rfl hZ7 Tryz.underlying46 rfl (by kernel_rfl)) rfl ⟨rfl, by rw [HN.out]; exact hl7⟩
    · have hok : ¬ Br.CoverOk L := fun h => h1 h.2
      rw [Br.cover_not hok, decide_eq_false hok]
      have dgt : (1 : Int) < ((Cv.partsN L).length : Int) := by omega
      generalize Mp.natRows (Cv.partsN L) = R at *
      generalize (Cv.partsN L).length = k at *
      have HP0 := Lib.hid hP0; have HS := Lib.hid hS; have Hsz := Lib.hid hsz
      clear hP0 hS hpt hsz hpos hP h1 hok ha hL hd1 hd5
      go_enter Tryz.func31, Tryz.ntmps31
      have hz0 := Blk.new' hN 46 #[.int .i64 0, .int .i64 0, .int .i64 0]
      have hl0 : Below N w (w.alloc (.cells #[.int .i64 0, .int .i64 0, .int .i64 0] 46)) := by
        have h := (Below.refl w.heap.size w).alloc (Nat.le_refl _) (.cells #[.int .i64 0, .int .i64 0, .int .i64 0] 46)
        rwa [hN] at h
      have HZ0 := Lib.hid hz0; have Hl0 := Lib.hid hl0; clear hz0 hl0
      go_wp2_with fail
      refine (HP0.out _ Hl0.out).mono ?_
      rintro e w1 ⟨rfl, hb1⟩
      have HZ1 := Lib.hid (HZ0.out.below hb1 HZ0.out.lt)
      have Hl1 := Lib.hid (Hl0.out.trans (hb1.mono (Nat.le_of_lt HZ0.out.lt)))
      clear hb1
      go_wp2_with fail
      refine (HS.out _ Hl1.out).mono ?_
      rintro e w2 ⟨pa, pc, rfl, _, _, _, hb2⟩
      rw [Hsz.out]
      have HZ2 := Lib.hid (HZ1.out.below hb2 HZ1.out.lt)
      have Hl2 := Lib.hid (Hl1.out.trans (hb2.mono (Nat.le_of_lt HZ1.out.lt)))
      obtain ⟨_, _, _, _, _, _⟩ := HZ2.out.six
      clear hb2 HZ0 Hl0 HZ1 Hl1
      go_wp2
      have hZ4 := HZ2.out.put3 (x := .int .i64 0) (y := .int .i64 0) (z := .int .i64 0)
      have hl4 := below_p3 Hl2.out (g := N) (Nat.le_refl N) (.int .i64 0) (.int .i64 0) (.int .i64 0)
      exact bodyPost_ret (results_cell_tmp rfl _ _ N 46 #[.int .i64 0, .int .i64 0, .int .i64 0] (0, 0) _ rfl hZ4 Tryz.underlying46 rfl (by kernel_rfl)) rfl ⟨rfl, by rw [HN.out]; exact hl4⟩
  · have hok : ¬ Br.CoverOk L := fun h => hP h.1
    rw [Br.cover_not hok, decide_eq_false hok]
    rw [decide_eq_false hP] at hP0
    have HP0 := Lib.hid hP0
    clear hP0 hP hok ha hL
    go_enter Tryz.func31, Tryz.ntmps31
    have hz0 := Blk.new' hN 46 #[.int .i64 0, .int .i64 0, .int .i64 0]
    have hl0 : Below N w (w.alloc (.cells #[.int .i64 0, .int .i64 0, .int .i64 0] 46)) := by
      have h := (Below.refl w.heap.size w).alloc (Nat.le_refl _) (.cells #[.int .i64 0, .int .i64 0, .int .i64 0] 46)
      rwa [hN] at h
    have HZ0 := Lib.hid hz0; have Hl0 := Lib.hid hl0; clear hz0 hl0
    go_wp2_with fail
    refine (HP0.out _ Hl0.out).mono ?_
    rintro e w1 ⟨rfl, hb1⟩
    have HZ1 := Lib.hid (HZ0.out.below hb1 HZ0.out.lt)
    have Hl1 := Lib.hid (Hl0.out.trans (hb1.mono (Nat.le_of_lt HZ0.out.lt)))
    obtain ⟨_, _, _, _, _, _⟩ := HZ1.out.six
    clear hb1
    go_wp2
    have hZ4 := HZ1.out.put3 (x := .int .i64 0) (y := .int .i64 0) (z := .int .i64 0)
    have hl4 := below_p3 Hl1.out (g := N) (Nat.le_refl N) (.int .i64 0) (.int .i64 0) (.int .i64 0)
    exact bodyPost_ret (results_cell_tmp rfl _ _ N 46 #[.int .i64 0, .int .i64 0, .int .i64 0] (0, 0) _ rfl hZ4 Tryz.underlying46 rfl (by kernel_rfl)) rfl ⟨rfl, by rw [HN.out]; exact hl4⟩
end Go.Proofs.YtpebgompfgkljaaGreat
namespace Go.Proofs.YtpebgompfgkljaaGreat
open Go.RowKit

set_option maxRecDepth 10000 in
set_option maxHeartbeats 1000000 in
theorem spec_l10Letters (n : Nat) (w : World) (hn : n ≤ 1000) :
    Calls Tryz.prog 103 #[.int .i64 (n : Int)] w fun e w' => Gives w (Br.lets n) e w' := by
  obtain ⟨i0, hi0, hz0, hz1, hz2⟩ := info_int_parts
  have Hi0 := Lib.hid hi0; have Hz0 := Lib.hid hz0; have Hz1 := Lib.hid hz1; have Hz2 := Lib.hid hz2
  obtain ⟨N, hN⟩ : ∃ N, N = w.heap.size := ⟨_, rfl⟩
  have HN := Lib.hid hN
  have Hm := Lib.hid (own_made (w := w) hN.symm)
  have HbA := Lib.hid ((Below.refl w.heap.size w).alloc (Nat.le_refl _) (.cells #[] 3))
  clear hi0 hz0 hz1 hz2 hN
  go_enter Tryz.func103, Tryz.ntmps103
  go_wp2
  go_loopw [3, 4] (fun ov kv wr => ∃ i : Nat, i ≤ n ∧ kv = .int .i64 ((i : Int) + 1) ∧ wr.ownsRow N 3 1 ov i (intCells (Br.lets i)) ∧ Hid (Below w.heap.size w wr ∧ N ≤ wr.heap.size)) (fun _ kv _ => n + 1 - (intOf kv).toNat)
  case atStart => exact ⟨0, by omega, rfl, Hm.out, Lib.hid ⟨HbA.out, by rw [HN.out]; simp⟩⟩
  case round =>
    obtain ⟨i, hi, rfl, hown, hh⟩ := hrel
    by_cases hlt : i < n
    · have dle : (i : Int) + 1 ≤ (n : Int) := by omega
      have Hsn := Lib.hid (Br.lets_snoc i)
      have e1 : IntKind.i64.wrap ((i : Int) + 1 + 1) = (i : Int) + 1 + 1 := wrap_small (by omega) (by omega)
      have hq1 : i + 1 ≤ maxLen := by unfold maxLen; omega
      have hq2 : (i + 1) * 8 ≤ 140737488355328 := by omega
      obtain ⟨av, cv, rfl⟩ := own_len hown
      have hN4 := hh.out.2
      go_wp2_with (at_builtin; refine append_one rfl (.tmp 11) (.tmp 13) 30 rfl N 3 i0 _ 8 Tryz.underlying30 Hi0.out Hz0.out Hz1.out Hz2.out (by rfl) _ _ _ rfl hown (by rfl) _ rfl hq1 hq2 hN4 ?_; intro v1 w5 hown5 hg5 _)
      go_roundw
      case rel =>
        refine ⟨i + 1, by omega, by go_num, ?_, Lib.hid ⟨?_, ?_⟩⟩
        · rw [Hsn.out, ← intCells_snoc]; exact hown5
        · exact Below.grown (hh.out.1.alloc hh.out.1.size _) hg5 (by have := hh.out.1.size; simp; omega) (fun k hk => by have h1 := (hown.lt k hk).1; have h3 := HN.out; omega)
        · have := hg5.size; simp at this; omega
      case measure => simp [intOf]; omega
    · obtain rfl : i = n := by omega
      have dle : ¬ (i : Int) + 1 ≤ (i : Int) := by omega
      have Hg := Lib.hid (own_gives (w := w) (l := Br.lets i) (own_mono hown (by have h2 := HN.out; omega)) (Br.lets_len i) hh.out.1)
      go_wp2
      go_ret
      exact Hg.out
theorem Br.whole_prod {L : List (List Int)} (h : Cv.Perms L) : Cv.Whole (Br.prod L (Cv.deg L)) ↔ ∀ s, s < Cv.deg L → Br.mul L s = s := by
  unfold Cv.Whole
  rw [Br.prod_len]
  have hg : ∀ k, k < Cv.deg L → (Br.prod L (Cv.deg L)).getD k 0 = ((Br.mul L k : Nat) : Int) := fun k hk => by
    unfold Br.prod; exact Cls.row_getD hk
  constructor
  · rintro ⟨_, hw⟩ s hs
    have := hw s hs
    rw [hg s hs] at this; omega
  · intro hw
    exact ⟨by have := h.2.2.2.1; omega, fun k hk => by rw [hg k hk, hw k hk]⟩
set_option maxRecDepth 10000 in
set_option maxHeartbeats 2000000 in
theorem spec_IsPassport (a : Option Addr) (c : Nat) (L : List (List Int)) (w : World) (ha : GridAt w a L) (hL : ∀ p ∈ L, p.length ≤ 1048576) (hn : L.length ≤ 1048576) :
    Calls Tryz.prog 43 #[.slice a L.length c] w fun e w' => e = .returned (.bool (decide (Br.Pass L))) ∧ Below w.heap.size w w' := by
  have hI := fun W => spec_l1In (L.length : Int) 1 5 W
  by_cases h5 : (1 : Int) ≤ (L.length : Int) ∧ (L.length : Int) ≤ 5
  · rw [decide_eq_true h5] at hI
    have hcP := spec_l9Perms a c L w ha hL hn
    by_cases hP : Cv.Perms L
    · rw [decide_eq_true hP] at hcP
      have hLt := fun W => spec_l10Letters L.length W (by omega)
      have hA := fun aw cw W (hb : Below w.heap.size w W) (h : RowAt W aw (intCells (Br.lets L.length))) => spec_ActWord a aw c cw L (Br.lets L.length) W (ha.below hb) hL hn h (by rw [Br.lets_len]; omega)
      rw [Br.actW_lets hP, Br.lets_len] at hA
      have hpl := Br.prod_len L (Cv.deg L)
      have hd5 := hP.2.2.2.2
      have hW := fun aw cw W (h : RowAt W aw (intCells (Br.prod L (Cv.deg L)))) => spec_l9Whole aw cw (Br.prod L (Cv.deg L)) W h (by omega)
      rw [decide_eq_decide.2 (Br.whole_prod hP)] at hW
      have hres : decide (Br.Pass L) = decide (∀ s, s < Cv.deg L → Br.mul L s = s) := decide_eq_decide.2 ⟨fun h => h.2.2, fun h => ⟨by omega, hP, h⟩⟩
      rw [hres]
      have hll := Br.lets_len L.length
      generalize decide (∀ s, s < Cv.deg L → Br.mul L s = s) = V at *
      generalize Br.prod L (Cv.deg L) = R at *
      generalize Br.lets L.length = T at *
      have HI := Lib.hid hI; have HcP := Lib.hid hcP; have HLt := Lib.hid hLt; have HA := Lib.hid hA; have HW := Lib.hid hW; have Hll := Lib.hid hll
      clear hI hcP hLt hA hW hP ha hL hres hpl h5 hll
      go_enter Tryz.func43, Tryz.ntmps43
      go_wp2_with fail
      refine (HI.out _).mono ?_
      rintro e w0 ⟨rfl, hw0⟩
      rw [hw0]; clear hw0 w0
      go_wp2_with fail
      refine HcP.out.mono ?_
      rintro e w1 ⟨rfl, hb1⟩
      have Hb1 := Lib.hid hb1; clear hb1
      go_wp2_with fail
      refine (HLt.out w1).mono ?_
      rintro e w2 ⟨ta, tc, rfl, _, _, hf2, hb2⟩
      have Hf2 := Lib.hid hf2.row; have Hb2 := Lib.hid (Hb1.out.trans (hb2.mono Hb1.out.size))
      rw [Hll.out]
      clear hf2 hb2
      go_wp2_with fail
      refine (HA.out _ _ w2 Hb2.out Hf2.out).mono ?_
      rintro e w3 ⟨ra, rc, rfl, _, _, hf3, hb3⟩
      have Hf3 := Lib.hid hf3.row; have Hb3 := Lib.hid (Hb2.out.trans (hb3.mono Hb2.out.size))
      clear hf3 hb3
      go_wp2_with fail
      refine (HW.out _ _ w3 Hf3.out).mono ?_
      rintro e w0 ⟨rfl, hw0⟩
      rw [hw0]; clear hw0 w0
      go_wp2
      go_ret
      exact ⟨rfl, Hb3.out⟩
    · rw [decide_eq_false hP] at hcP
      rw [decide_eq_false fun h : Br.Pass L => hP h.2.1]
      have HI := Lib.hid hI; have HcP := Lib.hid hcP
      clear hI hcP hP ha hL h5
      go_enter Tryz.func43, Tryz.ntmps43
      go_wp2_with fail
      refine (HI.out _).mono ?_
      rintro e w0 ⟨rfl, hw0⟩
      rw [hw0]; clear hw0 w0
      go_wp2_with fail
      refine HcP.out.mono ?_
      rintro e w1 ⟨rfl, hb1⟩
      have Hb1 := Lib.hid hb1; clear hb1
      go_wp2
      go_ret
      exact ⟨rfl, Hb1.out⟩
  · rw [decide_eq_false h5] at hI
    rw [decide_eq_false fun h : Br.Pass L => h5 ⟨by have := h.2.1.2.1; omega, by have := h.1; omega⟩]
    have HI := Lib.hid hI
    clear hI h5 ha hL
    go_enter Tryz.func43, Tryz.ntmps43
    go_wp2_with fail
    refine (HI.out _).mono ?_
    rintro e w0 ⟨rfl, hw0⟩
    rw [hw0]; clear hw0 w0
    go_wp2
    go_ret
    exact ⟨rfl, Below.refl _ _⟩
theorem Br.sum_of {L : List (List Int)} (h : Br.Pass L) : Br.bsum L = Br.total L := if_pos h
set_option maxRecDepth 10000 in
set_option maxHeartbeats 2000000 in
theorem spec_BranchSum (a : Option Addr) (c : Nat) (L : List (List Int)) (w : World) (ha : GridAt w a L) (hL : ∀ p ∈ L, p.length ≤ 1048576) (hn : L.length ≤ 1048576) :
    Calls Tryz.prog 45 #[.slice a L.length c] w fun e w' => e = .returned (.int .i64 (Br.bsum L)) ∧ Below w.heap.size w w' := by
  have hcP := spec_IsPassport a c L w ha hL hn
  by_cases hP : Br.Pass L
  · rw [decide_eq_true hP] at hcP
    rw [Br.sum_of hP]
    have h5 := hP.1
    have hd5 := hP.2.1.2.2.2.2
    have hmem := hP.2.1.1
    have HcP := Lib.hid hcP; have HP := Lib.hid hP; have Hmem := Lib.hid hmem; have Ha := Lib.hid ha
    clear hcP hP ha hL hmem
    go_enter Tryz.func45, Tryz.ntmps45
    go_wp2_with fail
    refine HcP.out.mono ?_
    rintro e w1 ⟨rfl, hb1⟩
    have Hb1 := Lib.hid hb1; clear hb1
    go_wp2
    go_loopw [3, 4] (fun sv iv wr => ∃ i : Nat, i ≤ L.length ∧ iv = .int .i64 i ∧ sv = .int .i64 (Br.total (L.take i)) ∧ Hid (Below w.heap.size w wr)) (fun _ iv _ => L.length - (intOf iv).toNat)
    case atStart => exact ⟨0, by omega, rfl, rfl, Hb1⟩
    case round =>
      obtain ⟨i, hi, rfl, rfl, hb⟩ := hrel
      by_cases hlt : i < L.length
      · have dlt : decide (i < L.length) = true := decide_eq_true hlt
        obtain ⟨p, hp⟩ := get_some hlt
        obtain ⟨b, o, ai, ci, rfl, hbw, hcell0, hrow⟩ := Ha.out.get hp
        obtain ⟨hpl, hpP⟩ := Hmem.out p (get_mem hp)
        have hC := fun W (hB : Below w.heap.size w W) => spec_l6CyclesP ai ci p W (hrow.below hB) hpP (by omega)
        have hcy := Br.cycles_le (p := p)
        have hdf : Br.defect p = (p.length : Int) - ((Mp.cycles p).length : Int) := rfl
        have hst := Br.total_take hp
        have ht := Br.total_few HP.out i
        have hK := fun W (hB : Below w.heap.size w W) => show W.cell? ⟨b, o + i, none⟩ = some (.slice ai p.length ci) from by rw [hB.cell hbw]; exact hcell0
        generalize Br.total (L.take i) = T at *
        generalize Mp.cycles p = C at *
        have e1 : IntKind.i64.wrap (T + (p.length : Int)) = T + (p.length : Int) := wrap_small (by omega) (by omega)
        have e2 : IntKind.i64.wrap (T + (p.length : Int) - (C.length : Int)) = T + (p.length : Int) - (C.length : Int) := wrap_small (by omega) (by omega)
        have Hst := Lib.hid (show Br.total (L.take (i + 1)) = T + (p.length : Int) - (C.length : Int) by rw [hst, hdf]; omega)
        have i0 : (0 : Int) ≤ (i : Int) := by omega
        have i1 : (i : Int) < (L.length : Int) := by omega
        have hBd := Below.drew hb.out
        have HSd := Lib.hid (hK _ hBd); have HK := Lib.hid hK; have HC := Lib.hid hC
        clear hst hdf hp hcy hC hK hcell0 hrow hpP hpl ht
        go_wp2
        go_region_held3 (fun w' => w'.cell? ⟨b, o + i, none⟩ = some (.slice ai p.length ci)) (first | (with_reducible assumption) | (with_reducible exact HSd.out)) (first
          | (go_at_call 54; refine (HC.out _ hBd).mono ?_; rintro e w4 ⟨ra, rc, rfl, _, _, _, hb4⟩; have hB4 := hBd.trans (hb4.mono hBd.size); have hS4 := HK.out _ hB4))
        have HB4 := Lib.hid hB4
        clear hB4 hS4 HSd HK HC hBd
        go_wp2
        go_roundw
        case rel => exact ⟨i + 1, by omega, by go_num, by rw [Hst.out], HB4⟩
        case measure => simp [intOf]; omega
      · obtain rfl : i = L.length := by omega
        have dlt : decide (L.length < L.length) = false := decide_eq_false (by omega)
        rw [List.take_of_length_le (Nat.le_refl _)]
        go_wp2
        go_ret
        exact ⟨rfl, hb.out⟩
  · rw [decide_eq_false hP] at hcP
    rw [show Br.bsum L = -1 from if_neg hP]
    have HcP := Lib.hid hcP
    clear hcP hP ha hL
    go_enter Tryz.func45, Tryz.ntmps45
    go_wp2_with fail
    refine HcP.out.mono ?_
    rintro e w1 ⟨rfl, hb1⟩
    have Hb1 := Lib.hid hb1; clear hb1
    go_wp2
    go_ret
    exact ⟨rfl, Hb1.out⟩
set_option maxRecDepth 10000 in
set_option maxHeartbeats 2000000 in
theorem spec_CloseUp (a : Option Addr) (c : Nat) (L : List (List Int)) (w : World) (ha : GridAt w a L) (hL : ∀ p ∈ L, p.length ≤ 1048576) (hn : L.length ≤ 1048576) :
    Calls Tryz.prog 35 #[.slice a L.length c] w fun e w' => GivesRows2 w (Br.closed L) (decide (Br.CloseOk L)) e w' := by
  have hI := fun W => spec_l1In (L.length : Int) 1 4 W
  by_cases h4 : (1 : Int) ≤ (L.length : Int) ∧ (L.length : Int) ≤ 4
  · rw [decide_eq_true h4] at hI
    have hcP := spec_l9Perms a c L w ha hL hn
    by_cases hP : Cv.Perms L
    · rw [decide_eq_true hP] at hcP
      have hok : Br.CloseOk L := ⟨by omega, hP⟩
      rw [show Br.closed L = L ++ [Br.last L] from if_pos hok, decide_eq_true hok]
      obtain ⟨i0, hi0, hz0, hz1, hz2⟩ := info_ints_parts
      have Hi0 := Lib.hid hi0; have Hz0 := Lib.hid hz0; have Hz1 := Lib.hid hz1; have Hz2 := Lib.hid hz2
      have hLt := fun W => spec_l10Letters L.length W (by omega)
      have hA := fun aw cw W (hb : Below w.heap.size w W) (h : RowAt W aw (intCells (Br.lets L.length))) => spec_ActWord a aw c cw L (Br.lets L.length) W (ha.below hb) hL hn h (by rw [Br.lets_len]; omega)
      rw [Br.actW_lets hP, Br.lets_len] at hA
      have hpl := Br.prod_len L (Cv.deg L)
      have hd5 := hP.2.2.2.2
      have hV := fun b cc W (h : RowAt W b (intCells (Br.prod L (Cv.deg L)))) => spec_l6InverseP b cc (Br.prod L (Cv.deg L)) W h (by omega) (Br.prod_isP (Br.alike hP))
      rw [show Mp.mirror (Br.prod L (Cv.deg L)) = Br.last L from rfl] at hV
      have hC := fun W (h : Below w.heap.size w W) => spec_l5Copy a c L W (ha.below h) (Br.perms_tot hP)
      have hll := Br.lets_len L.length
      have hXl := Br.last_len L
      have hls : (L ++ [Br.last L]).length = L.length + 1 := by simp
      generalize Br.last L = X at *
      generalize Br.prod L (Cv.deg L) = R at *
      generalize Br.lets L.length = T at *
      generalize Cv.deg L = n at *
      have HI := Lib.hid hI; have HcP := Lib.hid hcP; have HLt := Lib.hid hLt; have HA := Lib.hid hA; have HV := Lib.hid hV; have HC := Lib.hid hC; have Hll := Lib.hid hll; have HXl := Lib.hid hXl; have Hls := Lib.hid hls; have Hpl := Lib.hid hpl
      clear hI hcP hLt hA hV hC hP ha hL hok hpl h4 hll hXl hls hi0 hz0 hz1 hz2
      have hm1 : L.length + 1 ≤ maxLen := by unfold maxLen; omega
      have hm2 : (L.length + 1) * 24 ≤ 140737488355328 := by omega
      go_enter Tryz.func35, Tryz.ntmps35
      go_wp2_with fail
      refine (HI.out _).mono ?_
      rintro e w0 ⟨rfl, hw0⟩
      rw [hw0]; clear hw0 w0
      go_wp2_with fail
      refine HcP.out.mono ?_
      rintro e w1 ⟨rfl, hb1⟩
      have Hb1 := Lib.hid hb1; clear hb1
      go_wp2_with fail
      refine (HLt.out w1).mono ?_
      rintro e w2 ⟨ta, tc, rfl, _, _, hf2, hb2⟩
      have Hf2 := Lib.hid hf2.row; have Hb2 := Lib.hid (Hb1.out.trans (hb2.mono Hb1.out.size))
      rw [Hll.out]
      clear hf2 hb2
      go_wp2_with fail
      refine (HA.out _ _ w2 Hb2.out Hf2.out).mono ?_
      rintro e w3 ⟨ra, rc, rfl, _, _, hf3, hb3⟩
      have Hf3 := Lib.hid hf3.row; have Hb3 := Lib.hid (Hb2.out.trans (hb3.mono Hb2.out.size))
      clear hf3 hb3
      go_wp2_with fail
      refine (HV.out _ _ w3 Hf3.out).mono ?_
      rintro e w4 ⟨xa, xc, rfl, hxc, _, hf4, hb4⟩
      have Hf4 := Lib.hid (show RowIn w4 w3.heap.size w4.heap.size 3 xa (intCells X) from RowIn.of_fresh hf4); have Hb4 := Lib.hid (Hb3.out.trans (hb4.mono Hb3.out.size)); have Hxc := Lib.hid hxc
      rw [HXl.out]
      clear hf4 hb4 hxc
      go_wp2_with fail
      refine (HC.out w4 Hb4.out).mono ?_
      rintro e w5 ⟨v5, rfl, hh5, hb5⟩
      have Hf5 := Lib.hid (Hf4.out.below hb5); have Hb5 := Lib.hid (Hb4.out.trans (hb5.mono Hb4.out.size)); have Hz5 := Lib.hid hb5.size
      obtain ⟨hs, q1, q2, q3, q4⟩ := hh5
      have Hown := Lib.hid q2; have Hq1 := Lib.hid q1; have Hq3 := Lib.hid q3; have Hq4 := Lib.hid q4
      have hN5 : w4.heap.size ≤ w5.heap.size := hb5.size
      clear hb5 q1 q2 q3 q4
      go_wp2_with (at_builtin; refine append_one rfl (.tmp 22) (.tmp 24) 24 rfl w4.heap.size 30 i0 _ 24 Tryz.underlying24 Hi0.out Hz0.out Hz1.out Hz2.out (by rfl) _ _ _ rfl Hown.out (by rfl) _ rfl hm1 hm2 hN5 ?_; intro v1 w6 hown6 hg6 _; have Hg6 := Lib.hid hg6; have Hown6 := Lib.hid hown6; clear hg6 hown6)
      have hal : Below w5.heap.size w5 (w5.alloc (.cells #[.slice xa n xc] 30)) := (Below.refl _ _).alloc (Nat.le_refl _) _
      have hty := own_type (Hown.out.alloc (.cells #[.slice xa n xc] 30))
      have hz6 : w5.heap.size ≤ w6.heap.size := Nat.le_trans hal.size Hg6.out.size
      have hnew : RowIn w6 w3.heap.size w4.heap.size 3 xa (intCells X) := (Hf5.out.below hal).grownOf Hg6.out (by decide) hty
      have hold : ∀ h ∈ hs, RowIn w6 w4.heap.size w5.heap.size 3 h.a (intCells h.l) := fun h hh => ((Hq3.out h hh).below hal).grownOf Hg6.out (by decide) hty
      have hap : Apts (hs ++ [⟨xa, xc, X⟩]) := Hq4.out.snoc (fun y hy => (apart_new (w := w6) (w' := w6) (y := ⟨xa, xc, X⟩) hnew (hold y hy)).symm) Hxc.out
      have hz1 := Hb1.out.size; have hz3 := Hb3.out.size; have hz4 := Hb4.out.size
      have Hheld := Lib.hid (show Held w6 w.heap.size v1 (L ++ [X]) from ⟨hs ++ [⟨xa, xc, X⟩], by rw [List.map_append, Hq1.out]; rfl, by rw [Hls.out, ← hdCells_snoc]; have h := own_mono Hown6.out hz4; rw [show Hd.val ⟨xa, xc, X⟩ = .slice xa n xc by rw [← HXl.out]; rfl]; exact h, fun h hh => by
        rcases List.mem_append.1 hh with hh | hh
        · exact (hold h hh).mono hz4 hz6
        · rw [List.mem_singleton.1 hh]; exact hnew.mono hz3 (Nat.le_trans hN5 hz6), hap⟩)
      have Hb6 := Lib.hid (Below.grown (Hb5.out.alloc Hb5.out.size (.cells #[.slice xa n xc] 30)) Hg6.out (by have := Hb5.out.size; simp; omega) (fun k hk => by have := (Hown.out.lt k hk).1; omega))
      obtain ⟨ga, gc, rfl, hgc, hgm, hg⟩ := Hheld.out.done
      have Hg := Lib.hid hg; have Hgc := Lib.hid hgc
      clear hal hty hnew hold hap hg hgc
      rw [Hls.out]
      go_wp2
      go_ret2
      exact ⟨ga, gc, by rw [Hls.out]; rfl, Hgc.out, hgm, Hg.out, Hb6.out⟩
    · have hno : ¬ Br.CloseOk L := fun h => hP h.2
      rw [decide_eq_false hP] at hcP
      rw [show Br.closed L = [] from if_neg hno, decide_eq_false hno]
      have HI := Lib.hid hI; have HcP := Lib.hid hcP
      clear hI hcP hP ha hL h4 hno
      go_enter Tryz.func35, Tryz.ntmps35
      go_wp2_with fail
      refine (HI.out _).mono ?_
      rintro e w0 ⟨rfl, hw0⟩
      rw [hw0]; clear hw0 w0
      go_wp2_with fail
      refine HcP.out.mono ?_
      rintro e w1 ⟨rfl, hb1⟩
      have Hb1 := Lib.hid hb1; clear hb1
      go_wp2
      go_ret2
      exact GivesRows2.none (Hb1.out.alloc Hb1.out.size _) (by unfold maxLen; omega)
  · have hno : ¬ Br.CloseOk L := fun h => h4 ⟨by have := h.2.2.1; omega, by have := h.1; omega⟩
    rw [decide_eq_false h4] at hI
    rw [show Br.closed L = [] from if_neg hno, decide_eq_false hno]
    have HI := Lib.hid hI
    clear hI h4 hno ha hL
    go_enter Tryz.func35, Tryz.ntmps35
    go_wp2_with fail
    refine (HI.out _).mono ?_
    rintro e w0 ⟨rfl, hw0⟩
    rw [hw0]; clear hw0 w0
    go_wp2
    go_ret2
    exact GivesRows2.none ((Below.refl _ _).alloc (Nat.le_refl _) _) (by unfold maxLen; omega)
end Go.Proofs.YtpebgompfgkljaaGreat
namespace Go.Proofs.YtpebgompfgkljaaGreat
open Go.RowKit

set_option maxRecDepth 10000 in
set_option maxHeartbeats 2000000 in
theorem spec_BranchCover (a : Option Addr) (c : Nat) (L : List (List Int)) (w : World) (ha : GridAt w a L) (hL : ∀ p ∈ L, p.length ≤ 1048576) (hn : L.length ≤ 1048576) :
    Calls Tryz.prog 32 #[.slice a L.length c] w fun e w' => GivesS w (Br.cover L) (decide (Br.CoverOk L)) e w' := by
  have hP0 := fun W (hb : Below w.heap.size w W) => spec_IsPassport a c L W (ha.below hb) hL hn
  generalize hN : w.heap.size = N at *
  have HN := Lib.hid hN
  by_cases hP : Br.Pass L
  · rw [decide_eq_true hP] at hP0
    have hS := fun W (hb : Below N w W) => spec_l9Parts a c L W (ha.below (by rw [hN]; exact hb)) hP.2.1
    have hsz : (Mp.natRows (Cv.partsN L)).length = (Cv.partsN L).length := by simp [Mp.natRows]
    have hpos := Br.parts_pos hP.2.1
    have hd1 := hP.2.1.2.1
    have hd5 := hP.2.1.2.2.2.2
    by_cases h1 : (Cv.partsN L).length = 1
    · have hok : Br.CoverOk L := ⟨hP, h1⟩
      rw [Br.cover_of hok, decide_eq_true hok]
      have hB := fun W (hb : Below N w W) => spec_BranchSum a c L W (ha.below (by rw [hN]; exact hb)) hL hn
      rw [Br.bsum_of hP] at hB
      have ht := Br.total_all hP
      rw [h1] at hsz
      obtain ⟨r0, hr0, hr0l⟩ := Cv.head_get (L := L) (by omega)
      obtain ⟨b0, o0, a0, c0, rfl, hbw0, hcell0, _⟩ := ha.get hr0
      rw [Nat.add_zero, hr0l] at hcell0
      have i2 : 0 < L.length := by omega
      generalize Cv.deg L = n at *
      generalize Br.total L = t at *
      generalize Mp.natRows (Cv.partsN L) = R at *
      obtain ⟨M2, hM2⟩ : ∃ M2 : Int, 2 * (n : Int) = M2 := ⟨_, rfl⟩
      obtain ⟨D, hD⟩ : ∃ D : Int, 2 - M2 = D := ⟨_, rfl⟩
      obtain ⟨T, hT⟩ : ∃ T : Int, D + t = T := ⟨_, rfl⟩
      obtain ⟨H, hH⟩ : ∃ H : Int, T.tdiv 2 = H := ⟨_, rfl⟩
      have hTe : 2 - 2 * (n : Int) + t = T := by omega
      rw [hTe, hH]
      have hHb : -100 ≤ H ∧ H ≤ 100 := by
        rw [← hH]
        constructor
        · rcases Int.le_total 0 T with h | h
          · have := Int.tdiv_nonneg h (show (0 : Int) ≤ 2 by decide); omega
          · have := Int.neg_tdiv T 2
            have h2 := Int.tdiv_le_self (a := -T) 2 (by omega)
            omega
        · rcases Int.le_total 0 T with h | h
          · have h2 := Int.tdiv_le_self (a := T) 2 h; omega
          · have := Int.neg_tdiv T 2
            have := Int.tdiv_nonneg (show 0 ≤ -T by omega) (show (0 : Int) ≤ 2 by decide)
            omega
      have e1 : IntKind.i64.wrap (2 * (n : Int)) = M2 := by rw [hM2]; exact wrap_small (by omega) (by omega)
      have e2 : IntKind.i64.wrap (2 - M2) = D := by rw [hD]; exact wrap_small (by omega) (by omega)
      have e3 : IntKind.i64.wrap (D + t) = T := by rw [hT]; exact wrap_small (by omega) (by omega)
      have e4 : IntKind.i64.wrap H = H := wrap_small (by omega) (by omega)
      have HP0 := Lib.hid hP0; have HS := Lib.hid hS; have HB := Lib.hid hB; have Hsz := Lib.hid hsz; have Hc0 := Lib.hid hcell0
      clear hP0 hS hB hsz hpos hP h1 hok ha hL hr0 hr0l hcell0 hTe hHb hM2 hD hT hd1 hd5 ht
      go_enter Tryz.func32, Tryz.ntmps32
      have hz0 := Blk.new' hN 46 #[.int .i64 0, .int .i64 0, .int .i64 0]
      have hl0 : Below N w (w.alloc (.cells #[.int .i64 0, .int .i64 0, .int .i64 0] 46)) := by
        have h := (Below.refl w.heap.size w).alloc (Nat.le_refl _) (.cells #[.int .i64 0, .int .i64 0, .int .i64 0] 46)
        rwa [hN] at h
      have HZ0 := Lib.hid hz0; have Hl0 := Lib.hid hl0; clear hz0 hl0
      go_wp2_with fail
      refine (HP0.out _ Hl0.out).mono ?_
      rintro e w1 ⟨rfl, hb1⟩
      have HZ1 := Lib.hid (HZ0.out.below hb1 HZ0.out.lt)
      have Hl1 := Lib.hid (Hl0.out.trans (hb1.mono (Nat.le_of_lt HZ0.out.lt)))
      clear hb1
      go_wp2_with fail
      refine (HS.out _ Hl1.out).mono ?_
      rintro e w2 ⟨pa, pc, rfl, _, _, _, hb2⟩
      rw [Hsz.out]
      have HZ2 := Lib.hid (HZ1.out.below hb2 HZ1.out.lt)
      have Hl2 := Lib.hid (Hl1.out.trans (hb2.mono (Nat.le_of_lt HZ1.out.lt)))
      clear hb2 HZ0 Hl0 HZ1 Hl1
      have hK := fun W (hb : Below N w W) => show W.cell? ⟨b0, o0, none⟩ = some (.slice a0 n c0) from by rw [hb.cell (by rw [← HN.out]; exact hbw0)]; exact Hc0.out
      have hdr := Below.drew Hl2.out
      have HS0 := Lib.hid (hK _ hdr)
      have HK := Lib.hid hK
      have HB7 := Lib.hid (HB.out _ hdr)
      have Hdr := Lib.hid hdr
      have HZ3 := Lib.hid HZ2.out.drew
      clear hK hdr HB HZ2
      go_upto_region 3 with fail
      refine wp_region_free 13 (by kernel_rfl) rfl ?_
      refine any_head 11 11 2 (fun w' => w'.cell? ⟨b0, o0, none⟩ = some (.slice a0 n c0)) rfl rfl HS0.out (fun hS => ?_)
      refine HdAny.take (i := 0) (v := ?_) rfl (by kernel_rfl) (fun _ _ _ h => h) rfl ?_ hS ?_
      rotate_left; · (intro w' hSw; go_simp; try with_reducible rfl)
      try simp only [Act.put, List.setIfInBounds_toArray, List.set_cons_zero, List.set_cons_succ]
      refine HdAny.take (i := 1) (v := ?_) rfl (by kernel_rfl) (fun _ _ _ h => h) rfl ?_ hS ?_
      rotate_left; · (intro w' hSw; go_simp; try with_reducible rfl)
      try simp only [Act.put, List.setIfInBounds_toArray, List.set_cons_zero, List.set_cons_succ]
      refine HdAny.take (i := 2) (v := ?_) rfl (by kernel_rfl) (fun _ _ _ h => h) rfl ?_ hS ?_
      rotate_left; · (intro w' hSw; go_simp; try with_reducible rfl)
      try simp only [Act.put, List.setIfInBounds_toArray, List.set_cons_zero, List.set_cons_succ]
      refine HdAny.take (i := 3) (v := ?_) rfl (by kernel_rfl) (fun _ _ _ h => h) rfl ?_ hS ?_
      rotate_left; · (intro w' hSw; go_simp; try with_reducible rfl)
      try simp only [Act.put, List.setIfInBounds_toArray, List.set_cons_zero, List.set_cons_succ]
      refine HdAny.take (i := 4) (v := ?_) rfl (by kernel_rfl) (fun _ _ _ h => h) rfl ?_ hS ?_
      rotate_left; · (intro w' hSw; go_simp; try with_reducible rfl)
      try simp only [Act.put, List.setIfInBounds_toArray, List.set_cons_zero, List.set_cons_succ]
      refine HdAny.take (i := 5) (v := ?_) rfl (by kernel_rfl) (fun _ _ _ h => h) rfl ?_ hS ?_
      rotate_left; · (intro w' hSw; go_simp; try with_reducible rfl)
      try simp only [Act.put, List.setIfInBounds_toArray, List.set_cons_zero, List.set_cons_succ]
      refine HdAny.take (i := 6) (v := ?_) rfl (by kernel_rfl) (fun _ _ _ h => h) rfl ?_ hS ?_
      rotate_left; · (intro w' hSw; go_simp; try with_reducible rfl)
      try simp only [Act.put, List.setIfInBounds_toArray, List.set_cons_zero, List.set_cons_succ]
      refine HdAny.one (i := 7) rfl (by kernel_rfl) (fun K hK => ?_)
      go_simp
      go_at_call 45
      refine HB7.out.mono ?_
      rintro e w7 ⟨rfl, hb7⟩
      have HZ7 := Lib.hid (HZ3.out.below hb7 HZ3.out.lt)
      have Hl7 := Lib.hid (Hdr.out.trans (hb7.mono (Nat.le_of_lt HZ3.out.lt)))
      clear hb7
      go_simp
      refine hK.out _ _ (HK.out _ Hl7.out) (fun hS => ?_)
      clear hK K
      try simp only [Act.put, List.setIfInBounds_toArray, List.set_cons_zero, List.set_cons_succ]
      refine HdAny.take (i := 8) (v := ?_) rfl (by kernel_rfl) (fun _ _ _ h => h) rfl ?_ hS ?_
      rotate_left; · (intro w' hSw; go_simp; try with_reducible rfl)
      try simp only [Act.put, List.setIfInBounds_toArray, List.set_cons_zero, List.set_cons_succ]
      refine HdAny.take (i := 9) (v := ?_) rfl (by kernel_rfl) (fun _ _ _ h => h) rfl ?_ hS ?_
      rotate_left; · (intro w' hSw; go_simp; try with_reducible rfl)
      try simp only [Act.put, List.setIfInBounds_toArray, List.set_cons_zero, List.set_cons_succ]
      refine HdAny.take (i := 10) (v := ?_) rfl (by kernel_rfl) (fun _ _ _ h => h) rfl ?_ hS ?_
      rotate_left; · (intro w' hSw; go_simp; try with_reducible rfl)
      try simp only [Act.put, List.setIfInBounds_toArray, List.set_cons_zero, List.set_cons_succ]
      refine HdAny.done (by kernel_rfl) ?_
      simp only [List.drop_succ_cons, List.drop_zero]
      subst hH
      have fn0 := HZ7.out.frozen 0; have fn1 := HZ7.out.frozen 1; have fn2 := HZ7.out.frozen 2
      obtain ⟨_, _, _, _, _, _⟩ := HZ7.out.six
      clear hS
      go_wp2
      have hZ7 := HZ7.out.put3 (x := .int .i64 (T.tdiv 2)) (y := .int .i64 0) (z := .int .i64 0)
      have hl7 := below_p3 Hl7.out (g := N) (Nat.le_refl N) (.int .i64 (T.tdiv 2)) (.int .i64 0) (.int .i64 0)
      exact bodyPost_ret (results_cell_tmp rfl _ _ N 46 #[.int .i64 (T.tdiv 2), .int .i64 0, .int .i64 0] (0, 0) _ rfl hZ7 Tryz.underlying46 rfl (by kernel_rfl)) rfl ⟨rfl, by rw [HN.out]; exact hl7⟩
    · have hok : ¬ Br.CoverOk L := fun h => h1 h.2
      rw [Br.cover_not hok, decide_eq_false hok]
      have dgt : (((Cv.partsN L).length : Int) != 1) = true := by simp; omega
      generalize Mp.natRows (Cv.partsN L) = R at *
      generalize (Cv.partsN L).length = k at *
      have HP0 := Lib.hid hP0; have HS := Lib.hid hS; have Hsz := Lib.hid hsz
      clear hP0 hS hsz hpos hP h1 hok ha hL hd1 hd5
      go_enter Tryz.func32, Tryz.ntmps32
      have hz0 := Blk.new' hN 46 #[.int .i64 0, .int .i64 0, .int .i64 0]
      have hl0 : Below N w (w.alloc (.cells #[.int .i64 0, .int .i64 0, .int .i64 0] 46)) := by
        have h := (Below.refl w.heap.size w).alloc (Nat.le_refl _) (.cells #[.int .i64 0, .int .i64 0, .int .i64 0] 46)
        rwa [hN] at h
      have HZ0 := Lib.hid hz0; have Hl0 := Lib.hid hl0; clear hz0 hl0
      go_wp2_with fail
      refine (HP0.out _ Hl0.out).mono ?_
      rintro e w1 ⟨rfl, hb1⟩
      have HZ1 := Lib.hid (HZ0.out.below hb1 HZ0.out.lt)
      have Hl1 := Lib.hid (Hl0.out.trans (hb1.mono (Nat.le_of_lt HZ0.out.lt)))
      clear hb1
      go_wp2_with fail
      refine (HS.out _ Hl1.out).mono ?_
      rintro e w2 ⟨pa, pc, rfl, _, _, _, hb2⟩
      rw [Hsz.out]
      have HZ2 := Lib.hid (HZ1.out.below hb2 HZ1.out.lt)
      have Hl2 := Lib.hid (Hl1.out.trans (hb2.mono (Nat.le_of_lt HZ1.out.lt)))
      obtain ⟨_, _, _, _, _, _⟩ := HZ2.out.six
      clear hb2 HZ0 Hl0 HZ1 Hl1
      go_wp2
      have hZ4 := HZ2.out.put3 (x := .int .i64 0) (y := .int .i64 0) (z := .int .i64 0)
      have hl4 := below_p3 Hl2.out (g := N) (Nat.le_refl N) (.int .i64 0) (.int .i64 0) (.int .i64 0)
      exact bodyPost_ret (results_cell_tmp rfl _ _ N 46 #[.int .i64 0, .int .i64 0, .int .i64 0] (0, 0) _ rfl hZ4 Tryz.underlying46 rfl (by kernel_rfl)) rfl ⟨rfl, by rw [HN.out]; exact hl4⟩
  · have hok : ¬ Br.CoverOk L := fun h => hP h.1
    rw [Br.cover_not hok, decide_eq_false hok]
    rw [decide_eq_false hP] at hP0
    have HP0 := Lib.hid hP0
    clear hP0 hP hok ha hL
    go_enter Tryz.func32, Tryz.ntmps32
    have hz0 := Blk.new' hN 46 #[.int .i64 0, .int .i64 0, .int .i64 0]
    have hl0 : Below N w (w.alloc (.cells #[.int .i64 0, .int .i64 0, .int .i64 0] 46)) := by
      have h := (Below.refl w.heap.size w).alloc (Nat.le_refl _) (.cells #[.int .i64 0, .int .i64 0, .int .i64 0] 46)
      rwa [hN] at h
    have HZ0 := Lib.hid hz0; have Hl0 := Lib.hid hl0; clear hz0 hl0
    go_wp2_with fail
    refine (HP0.out _ Hl0.out).mono ?_
    rintro e w1 ⟨rfl, hb1⟩
    have HZ1 := Lib.hid (HZ0.out.below hb1 HZ0.out.lt)
    have Hl1 := Lib.hid (Hl0.out.trans (hb1.mono (Nat.le_of_lt HZ0.out.lt)))
    obtain ⟨_, _, _, _, _, _⟩ := HZ1.out.six
    clear hb1
    go_wp2
    have hZ4 := HZ1.out.put3 (x := .int .i64 0) (y := .int .i64 0) (z := .int .i64 0)
    have hl4 := below_p3 Hl1.out (g := N) (Nat.le_refl N) (.int .i64 0) (.int .i64 0) (.int .i64 0)
    exact bodyPost_ret (results_cell_tmp rfl _ _ N 46 #[.int .i64 0, .int .i64 0, .int .i64 0] (0, 0) _ rfl hZ4 Tryz.underlying46 rfl (by kernel_rfl)) rfl ⟨rfl, by rw [HN.out]; exact hl4⟩
end Go.Proofs.YtpebgompfgkljaaGreat
namespace Go.Proofs.YtpebgompfgkljaaGreat
open Go.RowKit

set_option maxRecDepth 10000 in
set_option maxHeartbeats 2000000 in
theorem spec_BraidPassport (a : Option Addr) (c : Nat) (L : List (List Int)) (k : Int) (w : World) (ha : GridAt w a L) (hL : ∀ p ∈ L, p.length ≤ 1048576) (hn : L.length ≤ 1048576) (hk0 : -9223372036854775808 ≤ k) (hk1 : k ≤ 9223372036854775807) :
    Calls Tryz.prog 38 #[.slice a L.length c, .int .i64 k] w fun e w' => GivesRows2 w (Br.braid L k) (decide (Br.BraidOk L k)) e w' := by
  have hcP := spec_IsPassport a c L w ha hL hn
  have e2 : IntKind.i64.wrap ((L.length : Int) - 2) = (L.length : Int) - 2 := wrap_small (by omega) (by omega)
  by_cases hP : Br.Pass L
  · rw [decide_eq_true hP] at hcP
    have hI := fun W => spec_l1In k 0 ((L.length : Int) - 2) W
    by_cases h01 : 0 ≤ k ∧ k ≤ (L.length : Int) - 2
    · rw [decide_eq_true h01] at hI
      obtain ⟨h0, h1⟩ := h01
      obtain ⟨K, rfl⟩ : ∃ K : Nat, k = (K : Int) := ⟨k.toNat, by omega⟩
      have hok : Br.BraidOk L (K : Int) := ⟨hP, h0, h1⟩
      obtain ⟨p, hp⟩ := get_some (show K < L.length by omega)
      obtain ⟨q, hq⟩ := get_some (show K + 1 < L.length by omega)
      rw [Br.braid_of hok hp hq, decide_eq_true hok]
      have hpm := hP.2.1.1 p (get_mem hp)
      have hqm := hP.2.1.1 q (get_mem hq)
      have hd5 := hP.2.1.2.2.2.2
      have h5 := hP.1
      obtain ⟨i0, hi0, hz0, hz1, hz2⟩ := info_int_parts
      have Hi0 := Lib.hid hi0; have Hz0 := Lib.hid hz0; have Hz1 := Lib.hid hz1; have Hz2 := Lib.hid hz2
      have hC := fun W (h : Below w.heap.size w W) => spec_l5Copy a c L W (ha.below h) (Br.perms_tot hP.2.1)
      have hcw := Br.actW_conj hP.2.1 hp hq
      have hlit : ([((K + 1 : Nat) : Int), ((K + 2 : Nat) : Int), -((K + 1 : Nat) : Int)] : List Int) = [(K : Int) + 1, (K : Int) + 2, -(K : Int) - 1] := by
        rw [show ((K + 1 : Nat) : Int) = (K : Int) + 1 by omega, show ((K + 2 : Nat) : Int) = (K : Int) + 2 by omega, show -((K : Int) + 1) = -(K : Int) - 1 by omega]
      rw [hlit] at hcw
      have hA := fun aw W (hb : Below w.heap.size w W) (h : RowAt W aw (intCells [(K : Int) + 1, (K : Int) + 2, -(K : Int) - 1])) => spec_ActWord a aw c 3 L [(K : Int) + 1, (K : Int) + 2, -(K : Int) - 1] W (ha.below hb) hL hn h (by simp)
      rw [hcw, show [(K : Int) + 1, (K : Int) + 2, -(K : Int) - 1].length = 3 from rfl] at hA
      have hxl : (Br.conj p q).length = Cv.deg L := by rw [Br.conj_len]; exact hpm.1
      have hpl := hpm.1
      obtain ⟨b, o, pa, pc, rfl, hbw, hcell, hrow⟩ := ha.get hp
      rw [hpl] at hcell
      generalize Br.conj p q = X at *
      generalize Cv.deg L = n at *
      have f1 : IntKind.i64.wrap ((K : Int) + 1) = (K : Int) + 1 := wrap_small (by omega) (by omega)
      have f2 : IntKind.i64.wrap ((K : Int) + 2) = (K : Int) + 2 := wrap_small (by omega) (by omega)
      have f3 : IntKind.i64.wrap (-(K : Int)) = -(K : Int) := wrap_small (by omega) (by omega)
      have f4 : IntKind.i64.wrap (-(K : Int) - 1) = -(K : Int) - 1 := wrap_small (by omega) (by omega)
      have k0 : (0 : Int) ≤ (K : Int) := by omega
      have k1 : (K : Int) < (L.length : Int) := by omega
      have k2 : (0 : Int) ≤ (K : Int) + 1 := by omega
      have k3 : (K : Int) + 1 < (L.length : Int) := by omega
      have HcP := Lib.hid hcP; have HI := Lib.hid hI; have HC := Lib.hid hC; have HA := Lib.hid hA; have Hxl := Lib.hid hxl; have Hpl := Lib.hid hpl; have Hp := Lib.hid hp; have Hcell := Lib.hid hcell; have Hrow := Lib.hid hrow
      clear hcP hI hC hA hP ha hL hok hp hq hpm hqm hxl hpl h0 h1 hcw hlit hcell hrow hi0 hz0 hz1 hz2
      go_enter Tryz.func38, Tryz.ntmps38
      go_wp2_with fail
      refine HcP.out.mono ?_
      rintro e w1 ⟨rfl, hb1⟩
      have Hb1 := Lib.hid hb1; clear hb1
      go_wp2_with fail
      refine (HI.out _).mono ?_
      rintro e w0 ⟨rfl, hw0⟩
      rw [hw0]; clear hw0 w0
      go_wp2_with fail
      refine (HC.out w1 Hb1.out).mono ?_
      rintro e w2 ⟨v2, rfl, hh2, hb2⟩
      obtain ⟨g, cap, rfl, hgN, hgw, hgc, hgm⟩ := hh2.form (by omega)
      obtain ⟨hs, hsl, hh, hap⟩ := hh2.hold
      have Hb2 := Lib.hid (Hb1.out.trans (hb2.mono Hb1.out.size)); have Hb12 := Lib.hid hb2
      have Hhs := Lib.hid hsl; have Hh := Lib.hid hh; have Hap := Lib.hid hap; have HgN := Lib.hid hgN
      clear hh2 hsl hh hap hb2
      obtain ⟨x, hx, hxe⟩ : ∃ x, hs[K]? = some x ∧ x.l = p := by
        have h := Hp.out
        rw [← Hhs.out, List.getElem?_map] at h
        cases he : hs[K]? with
        | none => rw [he] at h; cases h
        | some x => rw [he] at h; exact ⟨x, rfl, Option.some.inj h⟩
      obtain ⟨y, hy⟩ : ∃ y, hs[K + 1]? = some y := get_some (by have h := congrArg List.length Hhs.out; rw [List.length_map] at h; omega)
      have Hx := Lib.hid hx; have Hy1 := Lib.hid hy
      clear hx hy hxe
      have hbl : Below w2.heap.size w2 (w2.alloc (.cells #[.int .i64 ((K : Int) + 1), .int .i64 ((K : Int) + 2), .int .i64 (-(K : Int) - 1)] 3)) := (Below.refl _ _).alloc (Nat.le_refl _) _
      have hbk : Blk (w2.alloc (.cells #[.int .i64 ((K : Int) + 1), .int .i64 ((K : Int) + 2), .int .i64 (-(K : Int) - 1)] 3)) w2.heap.size 3 #[.int .i64 ((K : Int) + 1), .int .i64 ((K : Int) + 2), .int .i64 (-(K : Int) - 1)] := Blk.new _ _ _
      have HA2 := Lib.hid (HA.out (some ⟨w2.heap.size, 0, none⟩) _ (Hb2.out.trans (hbl.mono Hb2.out.size)) (RowIn.of_blk (cs := intCells [(K : Int) + 1, (K : Int) + 2, -(K : Int) - 1]) hbk (Nat.zero_le _) (Nat.lt_succ_self _)).row)
      have Hbl := Lib.hid hbl
      clear hbl hbk
      go_wp2_with fail
      refine HA2.out.mono ?_
      rintro e w4 ⟨ra, rc, rfl, hrc, _, hf4, hb4⟩
      have Hf4 := Lib.hid (show RowIn w4 w2.heap.size w4.heap.size 3 ra (intCells X) from (RowIn.of_fresh hf4).mono Hbl.out.size (Nat.le_refl _))
      have Hb4 := Lib.hid (Hbl.out.trans (hb4.mono Hbl.out.size))
      rw [Hxl.out] at hrc ⊢
      have Hrc := Lib.hid hrc
      clear hf4 hb4 hrc
      have Hh4 := Lib.hid (Hh.out.below Hb4.out)
      have hfz4 := Hh4.out.frozen K
      have c4 := Hh4.out.cell Hx.out
      have hz12 := Hb12.out.size
      have hh5 := Hh4.out.set (p := K) (x := ⟨ra, rc, X⟩) (Hf4.out.mono hz12 (Nat.le_refl _))
      simp only [Hxl.out] at hh5
      have hrx5 : RowIn (w4.setCell ⟨g, K, none⟩ (.slice ra n rc)) w2.heap.size (w4.setCell ⟨g, K, none⟩ (.slice ra n rc)).heap.size 3 ra (intCells X) := by
        have h := Hh4.out.far (p := K) (v := .slice ra n rc) Hf4.out
        simpa [World.setCell] using h
      have hb5 : Below w.heap.size w (w4.setCell ⟨g, K, none⟩ (.slice ra n rc)) := (Hb2.out.trans (Hb4.out.mono Hb2.out.size)).setCell (p := ⟨g, K, none⟩) (Nat.le_trans Hb1.out.size HgN.out) _
      have hy5 : (hs.set K ⟨ra, rc, X⟩)[K + 1]? = some y := by rw [List.getElem?_set_ne (by omega)]; exact Hy1.out
      have Hh5 := Lib.hid hh5; have Hrx5 := Lib.hid hrx5; have Hb5 := Lib.hid hb5; have Hy5 := Lib.hid hy5
      have hsz5 : (w4.setCell ⟨g, K, none⟩ (.slice ra n rc)).heap.size = w4.heap.size := by simp [World.setCell]
      have Hsz5 := Lib.hid hsz5
      clear hh5 hrx5 hb5 hy5 hsz5
      obtain ⟨w5, hw5⟩ : ∃ w5, w4.setCell ⟨g, K, none⟩ (.slice ra n rc) = w5 := ⟨_, rfl⟩
      rw [hw5] at Hh5 Hrx5 Hb5 Hsz5
      have c5 : ∀ W, Below w.heap.size w W → W.cell? ⟨b, o + K, none⟩ = some (.slice pa n pc) := fun W hB => by rw [hB.cell hbw]; exact Hcell.out
      have hal : Below w5.heap.size w5 (w5.alloc (.cells #[] 3)) := (Below.refl _ _).alloc (Nat.le_refl _) _
      have hbal := Hb5.out.trans (hal.mono Hb5.out.size)
      have c6 := c5 _ hbal
      have Hmk := Lib.hid (own_made (w := w5) rfl)
      have HrM := Lib.hid (Hrow.out.below hbal)
      have Hal := Lib.hid hal; have Hbal := Lib.hid hbal
      have Hl2 := Lib.hid (show (intCells p).length = n by rw [intCells_len]; exact Hpl.out)
      have a7 : 0 + n ≤ maxLen := by unfold maxLen; omega
      have a8 : (0 + n) * 8 ≤ 140737488355328 := by omega
      clear c5 hal hbal
      go_wp2_with (at_builtin; refine append_row rfl (.tmp 37) (.tmp 41) 30 rfl w5.heap.size 3 i0 _ 8 Tryz.underlying30 Hi0.out Hz0.out Hz1.out Hz2.out (by rfl) _ 0 (intCells []) rfl Hmk.out pa n _ (intCells p) rfl HrM.out Hl2.out (intCells_one _) a7 a8 Hal.out.size ?_; intro v7 w7 hown7 hg7; have hb7 : Below w5.heap.size w5 w7 := Below.grown Hal.out hg7 (Nat.le_trans (Nat.le_refl _) Hal.out.size) (fun j hj => (Hmk.out.lt j hj).1); rw [Nat.zero_add] at hown7; obtain ⟨ya, yc, rfl, hyc, hyf⟩ := own_fresh hown7 Hl2.out; have Hb7 := Lib.hid hb7; have Hyc := Lib.hid hyc; have Hyf := Lib.hid hyf; have Hh7 := Lib.hid (Hh5.out.below hb7); have hfz7 := Hh7.out.frozen (K + 1); have c7 := Hh7.out.cell Hy5.out; clear hown7 hg7 hb7 hyc hyf)
      have hh8 := Hh7.out.set (p := K + 1) (x := ⟨ya, yc, p⟩) ((RowIn.of_fresh Hyf.out).mono (by have := Hb4.out.size; have := Hsz5.out; omega) (Nat.le_refl _))
      simp only [Hpl.out] at hh8
      have hap1 := pair_set (p := K) (x := ⟨ra, rc, X⟩) Hap.out (fun z hz => apart_new (Hh.out.2 z hz) Hf4.out) (by show X.length ≤ rc; rw [Hxl.out]; exact Hrc.out)
      have hap2 := pair_set (p := K + 1) (x := ⟨ya, yc, p⟩) hap1 (fun z hz => by
        refine apart_new (m := w5.heap.size) (Hh5.out.2 z hz) (RowIn.of_fresh Hyf.out)) (by show p.length ≤ yc; rw [Hpl.out]; exact Hyc.out)
      have hh9 := hh8.held hap2
      rw [List.map_set, List.map_set, Hhs.out] at hh9
      have hb9 : Below w.heap.size w (w7.setCell ⟨g, K + 1, none⟩ (.slice ya n yc)) := (Hb5.out.trans (Hb7.out.mono Hb5.out.size)).setCell (p := ⟨g, K + 1, none⟩) (Nat.le_trans Hb1.out.size HgN.out) _
      have Hh9 := Lib.hid hh9; have Hb9 := Lib.hid hb9
      clear hh8 hap1 hap2 hh9 hb9
      go_wp2
      go_ret2
      obtain ⟨ga, gc, he, hgc', hgm', hg⟩ := Hh9.out.done
      have hls : ((L.set K X).set (K + 1) p).length = L.length := by simp
      rw [hls] at he hgc'
      cases he
      exact ⟨_, _, by rw [hls]; rfl, by rw [hls]; exact hgc', hgm', hg.mono Hb1.out.size (Nat.le_refl _), Hb9.out⟩
    · have hno : ¬ Br.BraidOk L k := fun h => h01 h.2
      rw [decide_eq_false h01] at hI
      rw [Br.braid_not hno, decide_eq_false hno]
      have HcP := Lib.hid hcP; have HI := Lib.hid hI
      clear hcP hI hP ha hL hno h01
      go_enter Tryz.func38, Tryz.ntmps38
      go_wp2_with fail
      refine HcP.out.mono ?_
      rintro e w1 ⟨rfl, hb1⟩
      have Hb1 := Lib.hid hb1; clear hb1
      go_wp2_with fail
      refine (HI.out _).mono ?_
      rintro e w0 ⟨rfl, hw0⟩
      rw [hw0]; clear hw0 w0
      go_wp2
      go_ret2
      exact GivesRows2.none (Hb1.out.alloc Hb1.out.size _) (by unfold maxLen; omega)
  · have hno : ¬ Br.BraidOk L k := fun h => hP h.1
    rw [decide_eq_false hP] at hcP
    rw [Br.braid_not hno, decide_eq_false hno]
    have HcP := Lib.hid hcP
    clear hcP hP ha hL hno
    go_enter Tryz.func38, Tryz.ntmps38
    go_wp2_with fail
    refine HcP.out.mono ?_
    rintro e w1 ⟨rfl, hb1⟩
    have Hb1 := Lib.hid hb1; clear hb1
    go_wp2
    go_ret2
    exact GivesRows2.none (Hb1.out.alloc Hb1.out.size _) (by unfold maxLen; omega)
theorem Br.mates_snoc (i : Nat) : Br.mates (i + 1) = Br.mates i ++ [((Mp.mate i : Nat) : Int)] := by unfold Br.mates Cls.row; rw [List.range_succ, List.map_append]; rfl
set_option maxRecDepth 10000 in
set_option maxHeartbeats 2000000 in
theorem spec_MapPassport (a : Option Addr) (c : Nat) (m : List Int) (w : World) (ha : RowAt w a (intCells m)) (hl : m.length ≤ 1048576) :
    Calls Tryz.prog 41 #[.slice a m.length c] w fun e w' => GivesRows2 w (Br.mapPass m) (decide (Br.MapOk m)) e w' := by
  have hM := spec_IsMap a c m w ha hl
  by_cases hm : Mp.IsM m
  · rw [decide_eq_true hm] at hM
    by_cases h5 : m.length ≤ 5
    · have dgt : ¬ (5 : Int) < (m.length : Int) := by omega
      rw [← (Br.map_closed hm).1, ← (Br.map_closed hm).2]
      obtain ⟨i0, hi0, hz0, hz1, hz2⟩ := info_int_parts
      have Hi0 := Lib.hid hi0; have Hz0 := Lib.hid hz0; have Hz1 := Lib.hid hz1; have Hz2 := Lib.hid hz2
      have hC := fun ga W (h : GridAt W ga [m, Br.mates m.length]) => spec_CloseUp ga 2 [m, Br.mates m.length] W h (fun p hp => by
        simp only [List.mem_cons, List.not_mem_nil, or_false] at hp
        rcases hp with rfl | rfl
        · exact hl
        · rw [Br.mates_len]; exact hl) (by simp)
      rw [show [m, Br.mates m.length].length = 2 from rfl] at hC
      have hml := Br.mates_len m.length
      generalize decide (Br.CloseOk [m, Br.mates m.length]) = B at *
      generalize Br.closed [m, Br.mates m.length] = Z at *
      have HM := Lib.hid hM; have HC := Lib.hid hC; have Hml := Lib.hid hml; have Ha := Lib.hid ha
      clear hM hC hml ha hm hi0 hz0 hz1 hz2
      go_enter Tryz.func41, Tryz.ntmps41
      go_wp2_with fail
      refine HM.out.mono ?_
      rintro e w1 ⟨rfl, hb1⟩
      have Hb1 := Lib.hid hb1
      have Hm := Lib.hid (own_made (w := w1) rfl)
      have HbA := Lib.hid (hb1.alloc hb1.size (.cells #[] 3))
      obtain ⟨N, hN⟩ : ∃ N, w1.heap.size = N := ⟨_, rfl⟩
      have HN := Lib.hid hN
      have hwN : w.heap.size ≤ N := by rw [← hN]; exact hb1.size
      rw [hN] at Hm
      have HsA := Lib.hid (show N ≤ (w1.alloc (.cells #[] 3)).heap.size by rw [← hN]; simp)
      clear hb1 hN
      go_wp2
      go_loopw [4, 5] (fun ov kv wr => ∃ i : Nat, i ≤ m.length ∧ kv = .int .i64 i ∧ wr.ownsRow N 3 1 ov i (intCells (Br.mates i)) ∧ Hid (Below w.heap.size w wr ∧ N ≤ wr.heap.size)) (fun _ kv _ => m.length - (intOf kv).toNat)
      case atStart => exact ⟨0, by omega, rfl, by rw [HN.out]; exact Hm.out, Lib.hid ⟨HbA.out, HsA.out⟩⟩
      case round =>
        obtain ⟨i, hi, rfl, hown, hh⟩ := hrel
        by_cases hlt : i < m.length
        · have dlt : decide (i < m.length) = true := decide_eq_true hlt
          have Hsn := Lib.hid (Br.mates_snoc i)
          have hmt := fun W => spec_l6Mate i _ rfl W (by omega)
          generalize Mp.mate i = mt at *
          have Hmt := Lib.hid hmt
          have hq1 : i + 1 ≤ maxLen := by unfold maxLen; omega
          have hq2 : (i + 1) * 8 ≤ 140737488355328 := by omega
          obtain ⟨av, cv, rfl⟩ := own_len hown
          have hN4 := hh.out.2
          clear hmt
          go_wp2_with fail
          refine (Hmt.out _).mono ?_
          rintro e w0 ⟨rfl, hw0⟩
          rw [hw0]; clear hw0 w0
          go_wp2_with (at_builtin; refine append_one rfl (.tmp 24) (.tmp 27) 30 rfl N 3 i0 _ 8 Tryz.underlying30 Hi0.out Hz0.out Hz1.out Hz2.out (by rfl) _ _ _ rfl hown (by rfl) _ rfl hq1 hq2 hN4 ?_; intro v1 w5 hown5 hg5 _)
          go_roundw
          case rel =>
            refine ⟨i + 1, by omega, by go_num, ?_, Lib.hid ⟨?_, ?_⟩⟩
            · rw [Hsn.out, ← intCells_snoc]; exact hown5
            · exact Below.grown (hh.out.1.alloc hh.out.1.size _) hg5 (by have := hh.out.1.size; simp; omega) (fun k hk => by have h1 := (hown.lt k hk).1; omega)
            · have := hg5.size; simp at this; omega
          case measure => simp [intOf]; omega
        · obtain rfl : i = m.length := by omega
          have dlt : decide (m.length < m.length) = false := decide_eq_false (by omega)
          obtain ⟨av, cv, rfl⟩ := own_len hown
          have Hown := Lib.hid hown
          have Hh := Lib.hid hh.out.1
          have hal : Below wr.heap.size wr (wr.alloc (.cells #[] 3)) := (Below.refl _ _).alloc (Nat.le_refl _) _
          have hbal := hh.out.1.trans (hal.mono hh.out.1.size)
          have Hmk := Lib.hid (own_made (w := wr) rfl)
          have HrM := Lib.hid (Ha.out.below hbal)
          have Hal := Lib.hid hal; have Hbal := Lib.hid hbal
          have Hl2 := Lib.hid (intCells_len m)
          have a7 : 0 + m.length ≤ maxLen := by unfold maxLen; omega
          have a8 : (0 + m.length) * 8 ≤ 140737488355328 := by omega
          clear hown hh hal hbal
          go_wp2_with (at_builtin; refine append_row rfl (.tmp 30) (.tmp 31) 30 rfl wr.heap.size 3 i0 _ 8 Tryz.underlying30 Hi0.out Hz0.out Hz1.out Hz2.out (by rfl) _ 0 (intCells []) rfl Hmk.out a m.length _ (intCells m) rfl HrM.out Hl2.out (intCells_one _) a7 a8 Hal.out.size ?_; intro v7 w7 hown7 hg7; have hb7 : Below wr.heap.size wr w7 := Below.grown Hal.out hg7 (Nat.le_trans (Nat.le_refl _) Hal.out.size) (fun j hj => (Hmk.out.lt j hj).1); rw [Nat.zero_add] at hown7; obtain ⟨ya, yc, rfl, hyc, hyf⟩ := own_fresh hown7 Hl2.out; have hmr := own_keep Hown.out hb7 (fun k hk => (Hown.out.lt k hk).2); have Hmr := Lib.hid hmr; have Hb7 := Lib.hid (Hh.out.trans (hb7.mono Hh.out.size)); have Hyf := Lib.hid hyf.row; clear hown7 hg7 hb7 hyc hyf hmr)
          have hmrow : RowAt w7 av (intCells (Br.mates m.length)) := by
            obtain ⟨a', c', he, _, hf⟩ := own_fresh Hmr.out (by rw [intCells_len, Hml.out])
            cases he
            exact hf.row
          have Hg := Lib.hid (grid_lit2 (c1 := yc) (c2 := cv) Hyf.out hmrow rfl Hml.out)
          have Hal8 := Lib.hid (Hb7.out.alloc Hb7.out.size (.cells #[.slice ya m.length yc, .slice av m.length cv] 30))
          clear hmrow
          go_wp2_with fail
          refine (HC.out _ _ Hg.out).mono ?_
          rintro e w8 ⟨ga, gc, rfl, hgc, hgm, hg3, hb3⟩
          have Hg3 := Lib.hid (hg3.mono Hal8.out.size (Nat.le_refl _)); have Hb3 := Lib.hid (Hal8.out.trans (hb3.mono Hal8.out.size))
          clear hg3 hb3
          go_wp2
          go_ret2
          exact ⟨ga, gc, rfl, hgc, hgm, Hg3.out, Hb3.out⟩
    · have dgt : (5 : Int) < (m.length : Int) := by omega
      rw [Br.map_not fun h => h5 h.2, decide_eq_false fun h : Br.MapOk m => h5 h.2]
      have HM := Lib.hid hM
      clear hM hm ha h5
      go_enter Tryz.func41, Tryz.ntmps41
      go_wp2_with fail
      refine HM.out.mono ?_
      rintro e w1 ⟨rfl, hb1⟩
      have Hb1 := Lib.hid hb1; clear hb1
      go_wp2
      go_ret2
      exact GivesRows2.none (Hb1.out.alloc Hb1.out.size _) (by unfold maxLen; omega)
  · rw [decide_eq_false hm] at hM
    rw [Br.map_not fun h => hm h.1, decide_eq_false fun h : Br.MapOk m => hm h.1]
    have HM := Lib.hid hM
    clear hM hm ha
    go_enter Tryz.func41, Tryz.ntmps41
    go_wp2_with fail
    refine HM.out.mono ?_
    rintro e w1 ⟨rfl, hb1⟩
    have Hb1 := Lib.hid hb1; clear hb1
    go_wp2
    go_ret2
    exact GivesRows2.none (Hb1.out.alloc Hb1.out.size _) (by unfold maxLen; omega)
end Go.Proofs.YtpebgompfgkljaaGreat
namespace Go.Proofs.YtpebgompfgkljaaGreat
open Go.RowKit

set_option maxRecDepth 10000 in
set_option maxHeartbeats 2000000 in
theorem spec_CycleTypes (a : Option Addr) (c : Nat) (L : List (List Int)) (w : World) (ha : GridAt w a L) (hL : ∀ p ∈ L, p.length ≤ 1048576) (hn : L.length ≤ 1048576) :
    Calls Tryz.prog 47 #[.slice a L.length c] w fun e w' => GivesRows w (Br.types L) e w' := by
  have hcP := fun W (hb : Below w.heap.size w W) => spec_IsPassport a c L W (ha.below hb) hL hn
  have hbN : Below w.heap.size w (w.alloc (.cells #[] 30)) := (Below.refl _ _).alloc (Nat.le_refl _) _
  by_cases hP : Br.Pass L
  · rw [decide_eq_true hP] at hcP
    rw [Br.types_of hP]
    obtain ⟨i0, hi0, hz0, hz1, hz2⟩ := info_ints_parts
    have Hi0 := Lib.hid hi0; have Hz0 := Lib.hid hz0; have Hz1 := Lib.hid hz1; have Hz2 := Lib.hid hz2
    have h5 := hP.1
    have hd5 := hP.2.1.2.2.2.2
    have hmem := hP.2.1.1
    obtain ⟨N, hN⟩ : ∃ N, w.heap.size = N := ⟨_, rfl⟩
    have hmk := made_rows (N := N) (w := w) hN
    rw [hN] at hmk
    have HN := Lib.hid hN
    have HcP := Lib.hid hcP; have Hmem := Lib.hid hmem; have Ha := Lib.hid ha; have HbN := Lib.hid hbN; have Hmk := Lib.hid hmk
    clear hcP hP ha hL hmem hbN hmk hi0 hz0 hz1 hz2 hN
    go_enter Tryz.func47, Tryz.ntmps47
    go_wp2
    go_loopw [3, 4, 5, 6, 7] (fun ov kv _ _ _ wr => ∃ i : Nat, i ≤ L.length ∧ kv = .int .i64 i ∧ Hid (Below w.heap.size w wr) ∧ Hid (∃ hs : List Hd, hs.map Hd.l = (L.take i).map Br.lens ∧ wr.ownsRow N 30 1 ov i (hdCells hs) ∧ (∀ h ∈ hs, RowIn wr N wr.heap.size 3 h.a (intCells h.l)) ∧ Apts hs)) (fun _ kv _ _ _ _ => L.length - (intOf kv).toNat)
    case atStart => exact ⟨0, by omega, rfl, HbN, Lib.hid ⟨[], rfl, by rw [HN.out]; exact Hmk.out, fun _ h => (by cases h), Apts.nil⟩⟩
    case round =>
      obtain ⟨i, hi, rfl, hb, hgr⟩ := hrel
      by_cases hlt : i < L.length
      · have dlt : decide (i < L.length) = true := decide_eq_true hlt
        obtain ⟨p, hp⟩ := get_some hlt
        obtain ⟨b, o, pa, pc, rfl, hbw, hcell0, hrow⟩ := Ha.out.get hp
        obtain ⟨hpl, hpP⟩ := Hmem.out p (get_mem hp)
        have hfew : (Mp.cycles p).length ≤ 5 := Nat.le_trans Br.cycles_le (by omega)
        have hC := fun W (hB : Below w.heap.size w W) => spec_l6CyclesP pa pc p W (hrow.below hB) hpP (by omega)
        have hsn := Br.types_take hp
        have hlen : Br.lens p = ((Mp.cycles p).map fun r => (r.length : Int)).mergeSort := rfl
        have hK := fun W (hB : Below w.heap.size w W) => show W.cell? ⟨b, o + i, none⟩ = some (.slice pa p.length pc) from by rw [hB.cell hbw]; exact hcell0
        obtain ⟨hs', hh1, hown, hin, hap⟩ := hgr.out
        have Hown := Lib.hid hown; have Hh1 := Lib.hid hh1; have Hin := Lib.hid hin; have Hap := Lib.hid hap
        generalize Mp.cycles p = C at *
        generalize Br.lens p = l0 at *
        have HC := Lib.hid hC; have Hsn := Lib.hid hsn; have Hlen := Lib.hid hlen; have HK := Lib.hid hK
        have hNw : N ≤ wr.heap.size := by have := hb.out.size; have := HN.out; omega
        have i0' : (0 : Int) ≤ (i : Int) := by omega
        have i1' : (i : Int) < (L.length : Int) := by omega
        clear hC hsn hlen hK hcell0 hrow hpP hpl hown hh1 hin hap hgr hp
        obtain ⟨wo, hwo⟩ : ∃ wo : World, wo = wr := ⟨_, rfl⟩
        subst hwo
        obtain ⟨I, hI⟩ : ∃ I, I = i := ⟨_, rfl⟩
        subst hI
        go_wp2_with fail
        refine (HcP.out _ hb.out).mono ?_
        rintro e w1 ⟨rfl, hb1⟩
        have hbw1 := hb.out.trans (hb1.mono hb.out.size)
        have Hb1o := Lib.hid hb1
        have hal : Below w1.heap.size w1 (w1.alloc (.cells #[] 3)) := (Below.refl _ _).alloc (Nat.le_refl _) _
        have hbA := hbw1.trans (hal.mono hbw1.size)
        have cK := HK.out _ hbA
        have HC2 := Lib.hid (HC.out _ hbA)
        have Hal := Lib.hid hal; have HbA := Lib.hid hbA; have Hbw1 := Lib.hid hbw1
        have Hmk := Lib.hid (own_made (w := w1) rfl)
        clear hb1 hbw1 hal hbA
        go_wp2_with fail
        refine HC2.out.mono ?_
        rintro e w2 ⟨ca, cc, rfl, _, _, hg2, hb2⟩
        have hm2 := own_keep Hmk.out hb2 (fun k hk => (Hmk.out.lt k hk).2)
        obtain ⟨B0, hB0⟩ : ∃ B0, w1.heap.size = B0 := ⟨_, rfl⟩
        have HB0 := Lib.hid hB0
        rw [hB0] at hm2
        have Hb2 := Lib.hid (show Below B0 w1 w2 from by rw [← hB0]; exact Hal.out.trans (hb2.mono Hal.out.size))
        have Hm2 := Lib.hid (show w2.ownsRow B0 3 1 (.slice (some ⟨B0, 0, none⟩) 0 0) 0 (intCells []) from hm2)
        obtain ⟨lo, hlo'⟩ : ∃ lo, (w1.alloc (.cells #[] 3)).heap.size = lo := ⟨_, rfl⟩
        have hlo : B0 < lo := by rw [← hlo', ← hB0]; simp
        obtain ⟨hiB, hhi'⟩ : ∃ hi, w2.heap.size = hi := ⟨_, rfl⟩
        have hhi : lo ≤ hiB := by rw [← hlo', ← hhi']; exact hb2.size
        rw [hlo', hhi'] at hg2
        rw [hB0]
        have Hhi := Lib.hid hhi'
        have Hg2 := Lib.hid (show GridIn w2 lo hiB ca C from hg2)
        have hiI := hi
        have HbI := hb
        have hltI := hlt
        clear hg2 hb2 hm2 hlo' hhi' hB0 cK hi hlt dlt i0' i1' hNw hb
        go_wp2
        go_loopw [5, 7] (fun ov iv wr => ∃ i : Nat, i ≤ C.length ∧ iv = .int .i64 i ∧ ∃ g cap, ov = .slice (some ⟨g, 0, none⟩) i cap ∧ (g < lo ∨ hiB ≤ g) ∧ hiB ≤ wr.heap.size ∧ Hid (Below B0 w1 wr) ∧ Hid (GridIn wr lo hiB ca C) ∧ Hid (∃ r : List Int, r.length = i ∧ wr.ownsRow B0 3 1 (.slice (some ⟨g, 0, none⟩) i cap) i (intCells r) ∧ r.Perm ((C.take i).map fun r => (r.length : Int)) ∧ r.Pairwise (· ≤ ·))) (fun _ iv _ => C.length - (intOf iv).toNat)
        case atStart => exact ⟨0, by omega, rfl, B0, 0, rfl, Or.inl hlo, by rw [Hhi.out]; exact Nat.le_refl _, Hb2, Hg2, Lib.hid ⟨[], rfl, Hm2.out, List.Perm.refl _, List.Pairwise.nil⟩⟩
        case round =>
          obtain ⟨i, hi', rfl, g, cap, rfl, hgo, hsz, hb, hgr, hrow⟩ := hrel
          by_cases hlt : i < C.length
          · obtain ⟨q, hq⟩ := get_some hlt
            obtain ⟨b, o, ai, ci, rfl, hbw, hcell, _⟩ := hgr.out.grid.get hq
            obtain ⟨r, hrl, hown, hperm, hsort⟩ := hrow.out
            have hP := spec_l9Put B0 g cap r (q.length : Int) wr (by rw [hrl]; exact hown) (by rw [← HB0.out]; exact hb.out.size) (by omega)
            rw [hrl] at hP
            have hnext : ∀ p, Cv.Cut r (q.length : Int) p → ((r.take p ++ [(q.length : Int)] ++ r.drop p).Perm ((C.take (i + 1)).map fun r => (r.length : Int)) ∧ (r.take p ++ [(q.length : Int)] ++ r.drop p).Pairwise (· ≤ ·) ∧ (r.take p ++ [(q.length : Int)] ++ r.drop p).length = i + 1) := fun p hp => by
              obtain ⟨hl2, rfl⟩ := List.getElem?_eq_some_iff.1 hq
              refine ⟨?_, Cv.cut_sorted hp hsort, ?_⟩
              · rw [List.take_succ_eq_append_getElem hl2, List.map_append]
                exact (Cv.cut_perm r _ p).trans (hperm.append_right _)
              · rw [(Cv.cut_perm r _ p).length_eq, List.length_append, hrl]; rfl
            have hglt := (hown.lt g rfl)
            have HP := Lib.hid hP; have Hnext := Lib.hid hnext; have Hrl := Lib.hid hrl
            have hi0 : (0 : Int) ≤ (i : Int) := by omega
            have hi1 : (i : Int) < (C.length : Int) := by omega
            clear hP hnext hown hperm hsort hrow hrl hq
            go_wp2_with fail
            refine HP.out.mono ?_
            rintro e w3 ⟨g', cap', p, rfl, hcut, hown3, hg3, hgg⟩
            have hN3 := Hnext.out p hcut
            have Hown3 := Lib.hid hown3; have Hg3 := Lib.hid hg3; have HN3 := Lib.hid hN3
            rw [Hrl.out] at Hown3
            rw [Hrl.out]
            clear hown3 hg3 hN3 hcut
            go_wp2
            go_roundw
            case rel =>
              refine ⟨i + 1, by omega, by go_num, g', cap', rfl, by rcases hgg with h | h <;> omega, Nat.le_trans hsz Hg3.out.size, Lib.hid (Below.grown hb.out Hg3.out (by rw [← HB0.out]; exact hb.out.size) (fun k hk => by cases hk; exact hglt.1)), Lib.hid ?_, Lib.hid ⟨_, HN3.out.2.2, Hown3.out, HN3.out.1, HN3.out.2.1⟩⟩
              exact hgr.out.only (Only.of_grown Hg3.out) (by omega)
            case measure => simp [intOf]; omega
          · obtain rfl : i = C.length := by omega
            obtain ⟨r, hrl, hown, hperm, hsort⟩ := hrow.out
            rw [List.take_of_length_le (Nat.le_refl _)] at hperm
            have hs := Cv.sort_eq hperm hsort
            rw [← Hlen.out] at hs
            obtain ⟨ra, rc, he, hrc, hrf⟩ := own_fresh hown (by rw [intCells_len]; exact hrl)
            cases he
            have hrl0 : l0.length = C.length := by rw [hs]; exact hrl
            rw [← hs] at hrf
            have Hrf := Lib.hid hrf; have Hrc := Lib.hid hrc; have Hrl0 := Lib.hid hrl0
            have hbo : Below wo.heap.size wo wr := Hb1o.out.trans (hb.out.mono (by have := HB0.out; have := Hb1o.out.size; omega))
            have Hbo := Lib.hid hbo
            have Hown2 := Lib.hid (own_keep Hown.out hbo (fun k hk => (Hown.out.lt k hk).2))
            have hNo : N ≤ wo.heap.size := by have := HbI.out.size; have := HN.out; omega
            have hN2 : N ≤ wr.heap.size := Nat.le_trans hNo hbo.size
            have hm1 : I + 1 ≤ maxLen := by unfold maxLen; omega
            have hm2 : (I + 1) * 24 ≤ 140737488355328 := by omega
            have HBo := Lib.hid (show wo.heap.size ≤ B0 by have := HB0.out; have := Hb1o.out.size; omega)
            obtain ⟨ova, ovc, he⟩ := own_len Hown2.out
            subst he
            clear hs hown hperm hsort hrow hrl hrf hrc hrl0 hbo
            go_wp2_with (at_builtin; refine append_one rfl (.tmp 38) (.tmp 40) 24 rfl N 30 i0 _ 24 Tryz.underlying24 Hi0.out Hz0.out Hz1.out Hz2.out (by rfl) _ _ _ rfl Hown2.out (by rfl) _ rfl hm1 hm2 hN2 ?_; intro v1 w3 hown1 hg1 _)
            go_roundw
            case rel =>
              have hst := grid_step (c := cap) (l := l0) Hin.out Hap.out Hown2.out hNo (Hrf.out.mono HBo.out) Hbo.out hg1 (by rw [Hrl0.out]; exact Hrc.out)
              refine ⟨I + 1, by omega, by go_num, Lib.hid (Below.grown ((HbI.out.trans (Hbo.out.mono HbI.out.size)).alloc (by have := HN.out; omega) _) hg1 (by have := HN.out; simp; omega) (fun k hk => by have := (Hown2.out.lt k hk).1; have := HN.out; omega)), Lib.hid ⟨hs' ++ [⟨some ⟨g, 0, none⟩, cap, l0⟩], ?_, ?_, hst⟩⟩
              · rw [List.map_append, Hh1.out, Hsn.out]; rfl
              · rw [← hdCells_snoc]
                rw [show Hd.val ⟨some ⟨g, 0, none⟩, cap, l0⟩ = .slice (some ⟨g, 0, none⟩) C.length cap by rw [← Hrl0.out]; rfl]
                exact hown1
            case measure => simp [intOf]; omega
      · obtain rfl : i = L.length := by omega
        have dlt : decide (L.length < L.length) = false := decide_eq_false (by omega)
        obtain ⟨hs', hh1, hown, hin, hap⟩ := hgr.out
        rw [List.take_of_length_le (Nat.le_refl _)] at hh1
        have hl : hs'.length = L.length := by have := congrArg List.length hh1; simpa using this
        obtain ⟨ga, gc, rfl, hgc, hgm, hg⟩ := grid_done hown hl hin hap
        rw [hh1] at hg
        have Hg := Lib.hid hg
        clear hg hgr hh1 hown hin hap
        go_wp2
        go_ret
        refine ⟨ga, gc, by rw [List.length_map]; rfl, by rw [List.length_map]; exact hgc, hgm, ?_, hb.out⟩
        rw [HN.out]; exact Hg.out
  · rw [decide_eq_false hP] at hcP
    rw [Br.types_not hP]
    have HcP := Lib.hid hcP; have HbN := Lib.hid hbN
    clear hcP hP ha hL hbN
    go_enter Tryz.func47, Tryz.ntmps47
    go_wp2
    go_loopw [3, 4, 5, 6, 7] (fun ov kv _ _ _ wr => ov = .slice (some ⟨w.heap.size, 0, none⟩) 0 0 ∧ kv = .int .i64 0 ∧ Hid (Below w.heap.size w wr)) (fun _ _ _ _ _ _ => 0)
    case atStart => exact ⟨rfl, rfl, HbN⟩
    case round =>
      obtain ⟨rfl, rfl, hb⟩ := hrel
      by_cases h0 : 0 < L.length
      · have dlt : (0 : Int) < (L.length : Int) := by omega
        go_wp2_with fail
        refine (HcP.out _ hb.out).mono ?_
        rintro e w1 ⟨rfl, hb1⟩
        have Hb1 := Lib.hid (hb.out.trans (hb1.mono hb.out.size)); clear hb1
        go_wp2
        go_ret
        exact GivesRows.none Hb1.out
      · have dlt : ¬ (0 : Int) < (L.length : Int) := by omega
        go_wp2
        go_ret
        exact GivesRows.none hb.out
end Go.Proofs.YtpebgompfgkljaaGreat
