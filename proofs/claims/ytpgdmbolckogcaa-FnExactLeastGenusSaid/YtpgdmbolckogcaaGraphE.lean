/-
  The walks of the program's and the model's FirstRotation; the rings of darts.
-/
import Derived.Test.YtpgdmbolckogcaaBase
import Derived.Test.YtpgdmbolckogcaaSlice
import Derived.Test.YtpgdmbolckogcaaIntRow
import Derived.Test.YtpgdmbolckogcaaInts
import Derived.Test.YtpgdmbolckogcaaOwn
import Derived.Test.YtpgdmbolckogcaaGrid
import Derived.Test.YtpgdmbolckogcaaClass
import Derived.Test.YtpgdmbolckogcaaLab
import Derived.Test.YtpgdmbolckogcaaMap
import Derived.Test.YtpgdmbolckogcaaMapB
import Derived.Test.YtpgdmbolckogcaaPutBehind
import Derived.Test.YtpgdmbolckogcaaGraph
import Derived.Test.YtpgdmbolckogcaaGraphA
import Derived.Test.YtpgdmbolckogcaaGraphA2
import Derived.Test.YtpgdmbolckogcaaGraphRot
import Derived.Test.YtpgdmbolckogcaaGraphB
import Derived.StillTailTactics
import Derived.Deep.QuietTactic
import Derived.BigQuiet
namespace Go.Proofs.Ytpgdmbolckogcaa
open Go.RowKit

theorem grown_drew1 {w w' : World} {row : Option Nat} (h : w.grownBy w' row) : w.grownBy w'.drew row := ⟨h.os, h.tape, h.output, h.size, h.block⟩
/-- A row of the call's own is written at one place. -/
theorem own_set1 {w : World} {lo g cap n k b : Nat} {f : Nat → Nat} (h : w.ownsRow lo 3 1 (.slice (some ⟨g, 0, none⟩) n cap) n (intCells (Cls.row f n))) (hk : k < n) :
    (w.setCell ⟨g, k, none⟩ (.int .i64 ((b : Nat) : Int))).drew.ownsRow lo 3 1 (.slice (some ⟨g, 0, none⟩) n cap) n (intCells (Cls.row (Mp.upd f k b) n)) := (ownRow_put h b hk).drew
theorem intsOf_getD {l : List Nat} {k : Nat} (h : k < l.length) : (intsOf l)[k]? = some ((l.getD k 0 : Nat) : Int) := by
  refine intsOf_get ?_
  rw [List.getD_eq_getElem?_getD, List.getElem?_eq_getElem h]; rfl
/-- The row lies in another block than g. -/
def OffRow (a : Option Addr) (g : Nat) : Prop := ∀ b o, a = some ⟨b, o, none⟩ → b ≠ g
theorem RowAt.off {w w' : World} {a : Option Addr} {cs : List Value} {g : Nat} (h : RowAt w a cs) (ho : OffRow a g) (hg : w.grownBy w' (some g)) : RowAt w' a cs := by
  rcases h with h | ⟨b, o, rfl, hlt, hc⟩
  · exact Or.inl h
  · have hb := hg.block b hlt (fun e => ho b o rfl (Option.some.inj e))
    refine Or.inr ⟨b, o, rfl, Nat.lt_of_lt_of_le hlt hg.size, fun i v hv => ?_⟩
    have h2 : w'.cell? ⟨b, o + i, none⟩ = w.cell? ⟨b, o + i, none⟩ := by simp only [World.cell?, hb]
    rw [h2]; exact hc i v hv

set_option maxRecDepth 10000 in
set_option maxHeartbeats 2000000 in
theorem spec_l7Ring (lo g cap n cd : Nat) (ad : Option Addr) (f : Nat → Nat) (l : List Nat) (w : World) (hm : w.ownsRow lo 3 1 (.slice (some ⟨g, 0, none⟩) n cap) n (intCells (Cls.row f n)))
    (hd : RowAt w ad (intCells (intsOf l))) (ho : OffRow ad g) (hln : ∀ x ∈ l, x < n) (hn : n ≤ 100) (hl : l.length ≤ 100) :
    Calls Try.prog 44 #[.slice (some ⟨g, 0, none⟩) n cap, .slice ad l.length cd] w fun e w' => e = .returned (.tuple #[]) ∧ w'.ownsRow lo 3 1 (.slice (some ⟨g, 0, none⟩) n cap) n (intCells (Cls.row (Gr.ringF f l) n)) ∧ w.grownBy w' (some g) := by
  have Hm := Lib.hid hm; have Hd := Lib.hid hd; have Ho := Lib.hid ho; have Hln := Lib.hid hln
  clear hm hd ho hln
  go_enter Try.func44, Try.ntmps44
  go_wp2
  go_loopw [4] (fun kv wr => ∃ k : Nat, k ≤ l.length ∧ kv = .int .i64 k ∧ Hid (wr.ownsRow lo 3 1 (.slice (some ⟨g, 0, none⟩) n cap) n (intCells (Cls.row (Gr.ringTo f l k) n))) ∧ Hid (w.grownBy wr (some g))) (fun kv _ => l.length - (intOf kv).toNat)
  case atStart => exact ⟨0, by omega, rfl, Hm, Lib.hid (World.grownBy.refl _ _)⟩
  case round =>
    obtain ⟨k, hk, rfl, hrow, hg⟩ := hrel
    by_cases hlt : k < l.length
    · have hq : (k + 1) % l.length < l.length := Nat.mod_lt _ (by omega)
      have hrd := Hd.out.off Ho.out hg.out
      have hx := Hln.out _ (Gr.getD_mem hlt)
      have hst : Gr.ringTo f l (k + 1) = Mp.upd (Gr.ringTo f l k) (l.getD k 0) (l.getD ((k + 1) % l.length) 0) := rfl
      obtain ⟨b, o, rfl, hbw, c1⟩ := intCells_get? hrd (intsOf_getD hlt)
      obtain ⟨b', o', e', _, c2⟩ := intCells_get? hrd (intsOf_getD hq)
      cases e'
      have hm1 : ((k : Int) + 1) % (l.length : Int) = (((k + 1) % l.length : Nat) : Int) := by rw [show (k : Int) + 1 = ((k + 1 : Nat) : Int) by omega]; exact (Int.natCast_emod _ _).symm
      have hm2 : Int.tmod ((k : Int) + 1) (l.length : Int) = (((k + 1) % l.length : Nat) : Int) := by rw [Int.tmod_eq_emod_of_nonneg (by omega)]; exact hm1
      generalize l.getD k 0 = x at *
      generalize l.getD ((k + 1) % l.length) 0 = y at *
      generalize (k + 1) % l.length = q at *
      have g1 := ownRow_cell hrow.out hx
      have z1 := hrow.out.frozenAt x
      have P := Lib.hid (own_set1 (b := y) hrow.out hx)
      have Gn := Lib.hid (grown_drew1 (only_setCell (p := ⟨g, x, none⟩) hg.out (Or.inl rfl) (.int .i64 ((y : Nat) : Int))))
      have Hst := Lib.hid hst
      generalize Gr.ringTo f l k x = z0 at g1
      have h0k : (0 : Int) ≤ (k : Int) := by omega
      have h1k : (k : Int) < (l.length : Int) := by omega
      have h0q : (0 : Int) ≤ (q : Int) := by omega
      have h1q : (q : Int) < (l.length : Int) := by omega
      have h0x : (0 : Int) ≤ (x : Int) := by omega
      have h1x : (x : Int) < (n : Int) := by omega
      have hwr : IntKind.i64.wrap ((k : Int) + 1) = (k : Int) + 1 := wrap_small (by omega) (by omega)
      have hln0 : ¬ (l.length : Int) = 0 := by omega
      have hln1 : ¬ l.length = 0 := by omega
      have hln2 : ¬ l = [] := fun h => by rw [h] at hlt; simp at hlt
      clear hst hrd hx
      go_wp2
      go_still_tail 14, (by kernel_rfl)
      change wpList _ _ _ _ _ wr.drew
      go_wp2
      go_roundw
      case rel => exact ⟨k + 1, by omega, by go_num, Lib.hid (by rw [Hst.out]; exact P.out), Gn⟩
      case measure => simp [intOf] <;> omega
    · obtain rfl : k = l.length := by omega
      go_wp2
      exact bodyPost_end (v := .tuple #[]) (by first | kernel_rfl | simp [results, Try.f44]) rfl ⟨rfl, hrow.out, hg.out⟩

set_option maxRecDepth 10000 in
set_option maxHeartbeats 400000 in
/-- No darts: nothing is written. -/
theorem spec_l7Ring0 (lo g cap n cd : Nat) (ad : Option Addr) (f : Nat → Nat) (w : World) (hm : w.ownsRow lo 3 1 (.slice (some ⟨g, 0, none⟩) n cap) n (intCells (Cls.row f n))) :
    Calls Try.prog 44 #[.slice (some ⟨g, 0, none⟩) n cap, .slice ad 0 cd] w fun e w' => e = .returned (.tuple #[]) ∧ w'.ownsRow lo 3 1 (.slice (some ⟨g, 0, none⟩) n cap) n (intCells (Cls.row f n)) ∧ w.grownBy w' (some g) := by
  have Hm := Lib.hid hm
  clear hm
  go_enter Try.func44, Try.ntmps44
  go_wp2
  go_loopw [4] (fun kv wr => kv = .int .i64 0 ∧ wr = w) (fun _ _ => 0)
  case atStart => exact ⟨rfl, rfl⟩
  case round =>
    obtain ⟨rfl, hw⟩ := hrel
    rw [hw]
    clear hw
    go_wp2
    exact bodyPost_end (v := .tuple #[]) (by first | kernel_rfl | simp [results, Try.f44]) rfl ⟨rfl, Hm.out, World.grownBy.refl _ _⟩

set_option maxRecDepth 10000 in
set_option maxHeartbeats 2000000 in
theorem spec_FirstRotation (a : Option Addr) (c : Nat) (L : List (List Int)) (w : World) (ha : GridAt w a L) (hl : tot L ≤ 1048576) :
    Calls Try.prog 25 #[.slice a L.length c] w fun e w' => Gives w (Gr.first L) e w' := by
  have hI := spec_IsGraph a c L w ha hl
  by_cases hG : Gr.IsG L
  · rw [decide_eq_true hG] at hI
    have hD := fun v W (h : GridAt W a L) (hv : v ≤ 1000) => spec_l7Darts a c L v W h hG hv
    have hl10 := hG.2.2
    have hl1 := hG.2.1
    have hux : ∀ d, d < 2 * L.length → Gr.vx L d < 7 := fun d hd => Gr.vx_lt hG hd
    have hv : Gr.first L = Cls.row (Gr.fr (Gr.vx L) (2 * L.length)) (2 * L.length) := if_pos hG
    rw [hv]
    have HI := Lib.hid hI; have HD := Lib.hid hD; have Ha := Lib.hid ha
    clear hI hD ha hG hv
    obtain ⟨u, hu⟩ : ∃ u, u = Gr.vx L := ⟨_, rfl⟩
    rw [← hu] at hux HD ⊢
    clear hu
    obtain ⟨n, hn⟩ : ∃ n, n = 2 * L.length := ⟨_, rfl⟩
    rw [← hn] at hux HD ⊢
    have hn20 : n ≤ 20 := by omega
    have hmul : IntKind.i64.wrap (2 * (L.length : Int)) = (n : Int) := by rw [wrap_small (by omega) (by omega)]; omega
    have hmul2 : 2 * (L.length : Int) = (n : Int) := by omega
    have hmk : ∀ W : World, (Instr.makeSlice 27 (.int .i64 (n : Int)) (.int .i64 (n : Int))).run Try.prog W = .ok (.slice (some ⟨W.heap.size, 0, none⟩) n n) (W.alloc (.cells (intCells (Cls.row (fun _ => 0) n)).toArray 3)) := fun W => mk_zeros n (by omega) W
    have Hst := Lib.hid (fun (W : World) => own_lit0 W (Cls.row (fun _ => 0) n) n (Cls.row_len _ _) (by unfold maxLen; omega))
    have Hux := Lib.hid hux
    clear hux hn
    go_enter Try.func25, Try.ntmps25
    go_wp2_with fail
    refine HI.out.mono ?_
    rintro e w1 ⟨rfl, hb1⟩
    have Hb1 := Lib.hid hb1; clear hb1
    generalize hG1 : w1.heap.size = G at *
    have HG1 := Lib.hid hG1
    go_wp2
    clear hG1
    go_loopw [4] (fun vv wr => ∃ v : Nat, v ≤ 7 ∧ vv = .int .i64 v ∧ Hid (wr.ownsRow w.heap.size 3 1 (.slice (some ⟨G, 0, none⟩) n n) n (intCells (Cls.row (Gr.fm u n v) n))) ∧ Hid (Below w.heap.size w wr)) (fun vv _ => 7 - (intOf vv).toNat)
    case atStart => exact ⟨0, by omega, rfl, Lib.hid (by have h := Hst.out w1; rw [HG1.out] at h; exact own_mono h (by have := Hb1.out.size; have := HG1.out; omega)), Lib.hid (Hb1.out.alloc Hb1.out.size _)⟩
    case round =>
      obtain ⟨v, hv, rfl, hrow, hb⟩ := hrel
      by_cases hlt : v < 7
      · have hGlt := (hrow.out.lt G rfl).2
        have hGlo := (hrow.out.lt G rfl).1
        go_wp2_with fail
        refine (HD.out v wr (Ha.out.below hb.out) (by omega)).mono ?_
        rintro e w2 hg2
        obtain ⟨a2, c2, rfl, _, _, hf2, hb2⟩ := hg2
        rw [intsOf_len]
        have hoff : OffRow a2 G ∨ Gr.at7 u n v = [] := by
          rcases hf2 with h | ⟨g2, o2, all, rfl, hge, _⟩
          · right; simpa [intCells, intsOf] using h
          · left; intro b o e; cases e; omega
        have hR := fun (ho : OffRow a2 G) => spec_l7Ring w.heap.size G n n c2 a2 (Gr.fm u n v) (Gr.at7 u n v) w2 (own_keep hrow.out hb2 (fun k hk => (hrow.out.lt k hk).2)) hf2.row ho (fun x hx => (Gr.at7_mem.1 hx).1) (by omega) (by have := Gr.at7_len u n v; omega)
        have hR0 := fun (he : Gr.at7 u n v = []) => spec_l7Ring0 w.heap.size G n n c2 a2 (Gr.fm u n v) w2 (own_keep hrow.out hb2 (fun k hk => (hrow.out.lt k hk).2))
        have hfin : Calls Try.prog 44 #[.slice (some ⟨G, 0, none⟩) n n, .slice a2 (Gr.at7 u n v).length c2] w2 fun e w' => e = .returned (.tuple #[]) ∧ w'.ownsRow w.heap.size 3 1 (.slice (some ⟨G, 0, none⟩) n n) n (intCells (Cls.row (Gr.fm u n (v + 1)) n)) ∧ w2.grownBy w' (some G) := by
          rcases hoff with h | h
          · exact hR h
          · have h0 := hR0 h
            have e : Gr.fm u n (v + 1) = Gr.fm u n v := by show Gr.ringF _ (Gr.at7 u n v) = _; rw [h]; rfl
            rw [e, h]; exact h0
        have Hfin := Lib.hid hfin
        have Hb2 := Lib.hid (hb.out.trans (hb2.mono hb.out.size))
        clear hfin hR hR0 hoff hb2 hf2 hrow
        go_wp2_with fail
        refine Hfin.out.mono ?_
        rintro e w3 ⟨rfl, hrow3, hg3⟩
        have Hrow3 := Lib.hid hrow3
        have Hb3 := Lib.hid (Hb2.out.grown hg3 (by have := Hb2.out.size; omega) (fun k hk => by cases hk; exact hGlo))
        clear hrow3 hg3
        go_wp2
        go_roundw
        case rel => exact ⟨v + 1, by omega, by go_num, Hrow3, Hb3⟩
        case measure => simp [intOf] <;> omega
      · obtain rfl : v = 7 := by omega
        have hf : Cls.row (Gr.fm u n 7) n = Cls.row (Gr.fr u n) n := row_congr fun d hd => Gr.fm_eq u n 7 d hd (Hux.out d hd)
        have Hf := Lib.hid hf
        clear hf hlt
        go_wp2
        go_ret
        have h := hrow.out
        rw [Hf.out] at h
        exact own_gives h (Cls.row_len _ _) hb.out
  · rw [decide_eq_false hG] at hI
    have hv : Gr.first L = [] := if_neg hG
    rw [hv]
    have HI := Lib.hid hI
    clear hI hG ha hv
    go_enter Try.func25, Try.ntmps25
    go_wp2_with fail
    refine HI.out.mono ?_
    rintro e w1 ⟨rfl, hb1⟩
    go_wp2
    go_ret
    exact Gives.nilAt (hb1.alloc hb1.size _)

set_option maxRecDepth 10000 in
set_option maxHeartbeats 1000000 in
theorem impl_vertexOfDart (a : Option Addr) (c : Nat) (L : List (List Int)) (d : Nat) (w : World) (ha : GridAt w a L) (hG : Gr.IsG L) (hd : d < 2 * L.length) :
    Calls Try.prog 56 #[.slice a L.length c, .int .i64 (d : Int)] w fun e w' => e = .returned (.int .i64 ((Gr.vx L d : Nat) : Int)) ∧ w' = w := by
  obtain ⟨r, hr⟩ := get_some (l := L) (i := d / 2) (by omega)
  obtain ⟨hr2, hri⟩ := Gr.end_get hG (i := d % 2) (by omega) (by omega) hr
  rw [show 2 * (d / 2) + d % 2 = d by omega] at hri
  obtain ⟨b, o, ai, ci, rfl, hbw, hcell, hrw⟩ := ha.get hr
  obtain ⟨b', o', rfl, hbw', hcell'⟩ := intCells_get? hrw hri
  have hl10 := hG.2.2
  have t1 : Int.tdiv (d : Int) 2 = ((d / 2 : Nat) : Int) := rfl
  have t2 : Int.tmod (d : Int) 2 = ((d % 2 : Nat) : Int) := rfl
  have t3 : (d : Int) / 2 = ((d / 2 : Nat) : Int) := by omega
  have t4 : (d : Int) % 2 = ((d % 2 : Nat) : Int) := by omega
  have t5 : IntKind.i64.wrap ((d / 2 : Nat) : Int) = ((d / 2 : Nat) : Int) := wrap_small (by omega) (by omega)
  have t6 : IntKind.i64.wrap ((d % 2 : Nat) : Int) = ((d % 2 : Nat) : Int) := wrap_small (by omega) (by omega)
  have k0 : (0 : Int) ≤ ((d / 2 : Nat) : Int) := by omega
  have k1 : ((d / 2 : Nat) : Int) < (L.length : Int) := by omega
  have k2 : (0 : Int) ≤ ((d % 2 : Nat) : Int) := by omega
  have k3 : ((d % 2 : Nat) : Int) < (r.length : Int) := by omega
  clear hr hri hrw hr2 hG ha
  generalize Gr.vx L d = z at *
  generalize d / 2 = q at *
  generalize d % 2 = m at *
  go_enter Try.func56, Try.ntmps56
  go_wp2
  go_ret
  exact ⟨by first | rfl | simp, rfl⟩

set_option maxRecDepth 10000 in
set_option maxHeartbeats 2000000 in
theorem impl_lesserDarts (a : Option Addr) (c : Nat) (L : List (List Int)) (d : Nat) (w : World) (ha : GridAt w a L) (hG : Gr.IsG L) (hd : d < 2 * L.length) :
    Calls Try.prog 46 #[.slice a L.length c, .int .i64 (d : Int)] w fun e w' => Gives w (intsOf (Gr.at7 (Gr.vx L) d (Gr.vx L d))) e w' := by
  obtain ⟨i0, hi0, hz0, hz1, hz2⟩ := info_int_parts
  have Hi0 := Lib.hid hi0; have Hz0 := Lib.hid hz0; have Hz1 := Lib.hid hz1; have Hz2 := Lib.hid hz2
  have hl10 := hG.2.2
  have hV := fun x W (h : GridAt W a L) (hx : x < 2 * L.length) => impl_vertexOfDart a c L x W h hG hx
  have HV := Lib.hid hV; have Ha := Lib.hid ha; have Hd := Lib.hid hd
  have hd20 : d ≤ 20 := by omega
  clear hi0 hz0 hz1 hz2 hV ha hG hd
  obtain ⟨u, hu⟩ : ∃ u, u = Gr.vx L := ⟨_, rfl⟩
  rw [← hu] at HV ⊢
  clear hu
  obtain ⟨N, hN⟩ : ∃ N, N = w.heap.size := ⟨_, rfl⟩
  have HN := Lib.hid hN; clear hN
  go_enter Try.func46, Try.ntmps46
  go_wp2
  go_loopw [5, 6, 8] (fun ov _ iv wr => ∃ i : Nat, i ≤ d ∧ iv = .int .i64 i ∧ Hid (RowI w N wr ov (intsOf (Gr.at7 u i (u d))))) (fun _ _ iv _ => d - (intOf iv).toNat)
  case atStart => exact ⟨0, by omega, rfl, Lib.hid (RowI.nil ((Below.refl _ _).mono (by rw [HN.out]; exact Nat.le_refl _)))⟩
  case round =>
    obtain ⟨i, hi, rfl, hrow⟩ := hrel
    by_cases hlt : i < d
    · have hb := hrow.out.2
      have hNle : N ≤ wr.heap.size := by have := hb.size; have := HN.out; omega
      have hg : GridAt wr a L := Ha.out.below (by rw [← HN.out]; exact hb)
      have V1 := Lib.hid (HV.out i wr hg (by have := Hd.out; omega))
      have V2 := Lib.hid (HV.out d wr hg Hd.out)
      have hln : (intsOf (Gr.at7 u i (u d))).length ≤ 100 := by rw [intsOf_len]; have := Gr.at7_len u i (u d); omega
      clear hb hg
      by_cases he : u i = u d
      · have hq : (((u i : Nat) : Int) == ((u d : Nat) : Int)) = true := by rw [he]; simp
        have Hst : Hid (intsOf (Gr.at7 u (i + 1) (u d)) = intsOf (Gr.at7 u i (u d)) ++ [(i : Int)]) := Lib.hid (by rw [Gr.at7_yes he, intsOf_snoc])
        generalize intsOf (Gr.at7 u i (u d)) = l1 at *
        have hm1 : l1.length + 1 ≤ maxLen := by unfold maxLen; omega
        have hm2 : (l1.length + 1) * 8 ≤ 140737488355328 := by omega
        have hown := hrow.out.1
        obtain ⟨av, cv, rfl⟩ := own_len hown
        clear he hln
        go_wp2_with fail
        refine V1.out.mono ?_
        rintro e w2 ⟨rfl, hw⟩
        rw [hw]; clear hw
        go_wp2_with fail
        refine V2.out.mono ?_
        rintro e w2 ⟨rfl, hw⟩
        rw [hw]; clear hw
        go_wp2_with (at_builtin; refine append_one rfl (.tmp 18) (.tmp 20) 27 rfl N 3 i0 _ 8 Try.underlying27 Hi0.out Hz0.out Hz1.out Hz2.out (by rfl) _ _ _ rfl hown (by rfl) _ rfl hm1 hm2 hNle ?_; intro v3 w3 hown3 hg3 _; obtain ⟨a3, c3, rfl⟩ := own_len hown3)
        go_roundw
        case rel => exact ⟨i + 1, by omega, by go_num, Lib.hid (by rw [Hst.out]; exact hrow.out.more hNle hown3 hg3)⟩
        case measure => simp [intOf] <;> omega
      · have hq : (((u i : Nat) : Int) == ((u d : Nat) : Int)) = false := beq_eq_false_iff_ne.2 (by omega)
        have Hst : Hid (intsOf (Gr.at7 u (i + 1) (u d)) = intsOf (Gr.at7 u i (u d))) := Lib.hid (by rw [Gr.at7_no he])
        clear he hln
        go_wp2_with fail
        refine V1.out.mono ?_
        rintro e w2 ⟨rfl, hw⟩
        rw [hw]; clear hw
        go_wp2_with fail
        refine V2.out.mono ?_
        rintro e w2 ⟨rfl, hw⟩
        rw [hw]; clear hw
        go_wp2
        go_roundw
        case rel => exact ⟨i + 1, by omega, by go_num, Lib.hid (by rw [Hst.out]; exact hrow.out)⟩
        case measure => simp [intOf] <;> omega
    · obtain rfl : i = d := by omega
      clear hlt
      go_wp2
      go_ret
      have h := hrow.out
      rw [HN.out] at h
      exact h.gives

set_option maxRecDepth 10000 in
set_option maxHeartbeats 1000000 in
theorem impl_newClasses_own (n : Nat) (w : World) (h1 : n ≤ 1000) :
    Calls Try.prog 55 #[.int .i64 (n : Int)] w fun e w' => e = .returned (.slice (some ⟨w.heap.size, 0, none⟩) n n) ∧ w'.ownsRow w.heap.size 3 1 (.slice (some ⟨w.heap.size, 0, none⟩) n n) n (intCells (Cls.row id n)) ∧ Below w.heap.size w w' := by
  have hmk := mk_zeros n h1
  have hst := own_lit0 w (Cls.row (fun _ => 0) n) n (Cls.row_len _ _) (by unfold maxLen; omega)
  generalize hN : w.heap.size = N at *
  have HN := Lib.hid hN
  have Hst := Lib.hid hst
  clear hst
  go_enter Try.func55, Try.ntmps55
  go_wp2
  go_loopw [4, 9] (fun _ iv wr => ∃ i : Nat, i ≤ n ∧ iv = .int .i64 i ∧ Below N w wr ∧ Hid (wr.ownsRow N 3 1 (.slice (some ⟨N, 0, none⟩) n n) n (intCells (Cls.row (fun k => if k < i then k else 0) n)))) (fun _ iv _ => n - (intOf iv).toNat)
  case atStart => exact ⟨0, by omega, rfl, by have h := (Below.refl w.heap.size w).alloc (Nat.le_refl _) (.cells (intCells (Cls.row (fun _ => 0) n)).toArray 3); rw [HN.out] at h; exact h, Lib.hid (by simpa using Hst.out)⟩
  case round =>
    obtain ⟨i, hi, rfl, hb, hk⟩ := hrel
    by_cases hlt : i < n
    · have hcell := ownRow_cell hk.out hlt
      have hfz := hk.out.frozenAt i
      have hput := ownRow_put hk.out i hlt
      rw [row_congr (f' := fun k => if k < i + 1 then k else 0) fun k _ => by
        show (if k = i then i else if k < i then k else 0) = if k < i + 1 then k else 0
        by_cases e : k = i
        · subst e; rw [if_pos rfl, if_pos (by omega)]
        · rw [if_neg e]
          by_cases e2 : k < i
          · rw [if_pos e2, if_pos (by omega)]
          · rw [if_neg e2, if_neg (by omega)]] at hput
      have Hput := Lib.hid hput
      clear hput
      generalize (((if i < i then i else 0 : Nat)) : Int) = z at hcell
      go_wp2
      go_roundw
      case rel => exact ⟨i + 1, by omega, by go_num, hb.setCell (Nat.le_refl _) _, Hput⟩
      case measure => simp [intOf]; omega
    · obtain rfl : i = n := by omega
      go_wp2
      go_ret
      refine ⟨rfl, ?_, hb⟩
      have h := hk.out
      rw [row_congr (f := fun k => if k < i then k else 0) (f' := id) fun k hk => if_pos hk] at h
      exact h

set_option maxRecDepth 10000 in
set_option maxHeartbeats 1000000 in
theorem impl_edgesApart (a : Option Addr) (c n : Nat) (L : List (List Int)) (w : World) (hn : n = 2 * L.length) (hl : L.length ≤ 100) :
    Calls Try.prog 45 #[.slice a L.length c] w fun e w' => (∃ p, e = .returned (.pointer (some ⟨p, 0, none⟩)) ∧ MapAt w' w.heap.size p id n) ∧ Below w.heap.size w w' := by
  have hmul : IntKind.i64.wrap (2 * (L.length : Int)) = (n : Int) := by rw [wrap_small (by omega) (by omega)]; omega
  have hmul2 : 2 * (L.length : Int) = (n : Int) := by omega
  have hC := impl_newClasses_own n w (by omega)
  have HC := Lib.hid hC
  have hn100 : n ≤ 1000 := by omega
  clear hC hn
  go_enter Try.func45, Try.ntmps45
  go_wp2_with fail
  refine HC.out.mono ?_
  rintro e w1 ⟨rfl, hown, hb⟩
  have Hown := Lib.hid hown; have Hb := Lib.hid hb
  clear hown hb
  go_wp2
  go_ret
  refine ⟨⟨_, rfl, w.heap.size, n, Blk.new _ _ _, Hown.out.alloc _, Hb.out.size, Nat.le_refl _, by unfold maxLen; omega⟩, Hb.out.alloc Hb.out.size _⟩

set_option maxRecDepth 10000 in
set_option maxHeartbeats 4000000 in
theorem impl_FirstRotation (a : Option Addr) (c : Nat) (L : List (List Int)) (w : World) (ha : GridAt w a L) (hl : tot L ≤ 1048576) :
    Calls Try.prog 26 #[.slice a L.length c] w fun e w' => Gives w (Gr.first L) e w' := by
  have hI := impl_IsGraph a c L w ha hl
  by_cases hG : Gr.IsG L
  · rw [decide_eq_true hG] at hI
    have hl10 := hG.2.2
    have hv : Gr.first L = Cls.row (Gr.fr (Gr.vx L) (2 * L.length)) (2 * L.length) := if_pos hG
    rw [hv]
    obtain ⟨n, hn⟩ : ∃ n, n = 2 * L.length := ⟨_, rfl⟩
    have hE := fun W => impl_edgesApart a c n L W hn (by omega)
    have hLD := fun d W (h : GridAt W a L) (hd : d < n) => impl_lesserDarts a c L d W h hG (by omega)
    have hn20 : n ≤ 20 := by omega
    rw [← hn]
    obtain ⟨u, hu⟩ : ∃ u, u = Gr.vx L := ⟨_, rfl⟩
    rw [← hu] at hLD ⊢
    have hPB := fun p (f : Nat → Nat) (d b : Nat) W (h : MapAt W w.heap.size p f n) (hlo : w.heap.size ≤ W.heap.size) (hd : d < n) (hb : b < n) => impl_putBehind p w.heap.size n f d b (d : Int) (b : Int) rfl rfl W h hlo hd hb (by omega)
    have HI := Lib.hid hI; have HE := Lib.hid hE; have HL := Lib.hid hLD; have HP := Lib.hid hPB; have Ha := Lib.hid ha
    clear hI hE hLD hPB ha hG hv hn hu
    go_enter Try.func26, Try.ntmps26
    go_wp2_with fail
    refine HI.out.mono ?_
    rintro e w1 ⟨rfl, hb1⟩
    have Hb1 := Lib.hid hb1; clear hb1
    go_wp2_with fail
    refine (HE.out w1).mono ?_
    rintro e w2 ⟨⟨p, rfl, hm⟩, hb2⟩
    have hm0 : MapAt w2 w.heap.size p (Gr.fr u 0) n := by
      obtain ⟨g, cap, h1, h2, h3, h4, h5⟩ := hm
      exact ⟨g, cap, h1, own_mono h2 Hb1.out.size, Nat.le_trans Hb1.out.size h3, h4, h5⟩
    obtain ⟨g, cap, hcell, _⟩ := hm0.open
    have Hm0 := Lib.hid hm0
    have Hb2 := Lib.hid (Hb1.out.trans (hb2.mono Hb1.out.size))
    clear hm hm0 hb2
    go_wp2
    go_loopw [4, 5, 16] (fun _ _ iv wr => ∃ i : Nat, i ≤ n ∧ iv = .int .i64 i ∧ Hid (MapAt wr w.heap.size p (Gr.fr u i) n) ∧ Hid (Below w.heap.size w wr)) (fun _ _ iv _ => n - (intOf iv).toNat)
    case atStart => exact ⟨0, by omega, rfl, Hm0, Hb2⟩
    case round =>
      obtain ⟨i, hi, rfl, hmp, hb⟩ := hrel
      by_cases hlt : i < n
      · have hst : Gr.fr u (i + 1) = Gr.ins (Gr.fr u i) i (Gr.at7 u i (u i)).getLast? := rfl
        have hmem : ∀ b, b ∈ Gr.at7 u i (u i) → b < n := fun b hb => by have := (Gr.at7_mem.1 hb).1; omega
        have HLi := Lib.hid (HL.out i wr (Ha.out.below hb.out) hlt)
        have hlen := Gr.at7_len u i (u i)
        generalize Gr.at7 u i (u i) = l at *
        have Hst := Lib.hid hst; have Hmem := Lib.hid hmem
        clear hst hmem hcell
        go_wp2_with fail
        refine HLi.out.mono ?_
        rintro e w3 hg3
        obtain ⟨a3, c3, rfl, _, _, hf3, hb3⟩ := hg3
        rw [intsOf_len]
        have hm3 := hmp.out.below hb3
        have hrow3 := hf3.row
        have Hb3 := Lib.hid (hb.out.trans (hb3.mono hb.out.size))
        have Hm3 := Lib.hid hm3
        clear hf3 hb3 hm3
        rcases hL : l.getLast? with _ | b
        · have hl0 : l = [] := List.getLast?_eq_none_iff.1 hL
          subst hl0
          have d0 : ((([] : List Nat).length : Nat) : Int) = 0 := rfl
          go_wp2
          go_roundw
          case rel => exact ⟨i + 1, by omega, by go_num, Lib.hid (by rw [Hst.out, hL]; exact Hm3.out), Hb3⟩
          case measure => simp [intOf] <;> omega
        · have hl0 : 0 < l.length := by
            rcases Nat.eq_zero_or_pos l.length with h | h
            · rw [List.eq_nil_of_length_eq_zero h] at hL; cases hL
            · exact h
          have hlast : l[l.length - 1]? = some b := by rw [← List.getLast?_eq_getElem?]; exact hL
          have hbn := Hmem.out b (get_mem hlast)
          obtain ⟨b', o', rfl, hbw', hcell'⟩ := intCells_get? hrow3 (intsOf_get hlast)
          have d0 : (0 : Int) < (l.length : Int) := by omega
          have hwr : IntKind.i64.wrap ((l.length : Int) - 1) = ((l.length - 1 : Nat) : Int) := by rw [wrap_small (by omega) (by omega)]; omega
          have hwr2 : (l.length : Int) - 1 = ((l.length - 1 : Nat) : Int) := by omega
          have q0 : (0 : Int) ≤ ((l.length - 1 : Nat) : Int) := by omega
          have q1 : ((l.length - 1 : Nat) : Int) < (l.length : Int) := by omega
          have HPb := Lib.hid (HP.out p (Gr.fr u i) i b w3 Hm3.out Hb3.out.size hlt hbn)
          have HL2 := Lib.hid hL
          clear hlast hrow3 hL
          generalize l.length - 1 = q at *
          go_wp2_with fail
          refine HPb.out.mono ?_
          rintro e w4 ⟨rfl, hm4, hb4⟩
          have Hm4 := Lib.hid hm4
          have Hb4 := Lib.hid (Hb3.out.trans hb4)
          clear hm4 hb4
          go_wp2
          go_roundw
          case rel => exact ⟨i + 1, by omega, by go_num, Lib.hid (by rw [Hst.out, HL2.out]; exact Hm4.out), Hb4⟩
          case measure => simp [intOf] <;> omega
      · obtain rfl : i = n := by omega
        obtain ⟨g2, cap2, hcell2, _, _, _, _, _, _, _, _, _, hrow2⟩ := hmp.out.open
        have Hrow2 := Lib.hid hrow2
        clear hlt hrow2 hcell
        go_wp2
        go_ret
        exact own_gives Hrow2.out (Cls.row_len _ _) hb.out
  · rw [decide_eq_false hG] at hI
    have hv : Gr.first L = [] := if_neg hG
    rw [hv]
    have HI := Lib.hid hI
    clear hI hG ha hv
    go_enter Try.func26, Try.ntmps26
    go_wp2_with fail
    refine HI.out.mono ?_
    rintro e w1 ⟨rfl, hb1⟩
    go_wp2
    go_ret
    exact Gives.none hb1
end Go.Proofs.Ytpgdmbolckogcaa
