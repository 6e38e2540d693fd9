/-
  The walks of the program's cyclesAmong and sheetCycles.
-/
import Derived.Test.YtodgongemoabiaaBase
import Derived.Test.YtodgongemoabiaaSlice
import Derived.Test.YtodgongemoabiaaIntRow
import Derived.Test.YtodgongemoabiaaInts
import Derived.Test.YtodgongemoabiaaOwn
import Derived.Test.YtodgongemoabiaaAppend
import Derived.Test.YtodgongemoabiaaGrid
import Derived.Test.YtodgongemoabiaaGridWalk
import Derived.Test.YtodgongemoabiaaGridRows
import Derived.Test.YtodgongemoabiaaGivesRows
import Derived.Test.YtodgongemoabiaaRws
import Derived.Test.YtodgongemoabiaaClass
import Derived.Test.YtodgongemoabiaaLab
import Derived.Test.YtodgongemoabiaaMap
import Derived.Test.YtodgongemoabiaaMapA
import Derived.Test.YtodgongemoabiaaMapB
import Derived.Test.YtodgongemoabiaaMapD
import Derived.Test.YtodgongemoabiaaCov
import Derived.Test.YtodgongemoabiaaCovP
import Derived.Test.YtodgongemoabiaaCovQ
import Derived.Deep.QuietTactic
import Derived.BigQuiet
import Derived.StillTailTactics
namespace Go.Proofs.Ytodgongemoabiaa
open Go.RowKit

set_option maxRecDepth 10000 in
set_option maxHeartbeats 1000000 in
theorem impl_follow (B n ci d : Nat) (ai : Option Addr) (f : Nat → Nat) (W : World) (hd : d < n) (c0 : W.cell? ⟨B, 0, none⟩ = some (.slice ai n ci)) (hr : RowAt W ai (intCells (Cls.row f n))) :
    Calls Try.prog 182 #[.int .i64 (d : Int), .pointer (some ⟨B, 0, none⟩)] W fun e W' => e = .returned (.int .i64 ((f d : Nat) : Int)) ∧ W' = W := by
  obtain ⟨b, o, rfl, hb, hc⟩ := intCells_get? hr (Cls.row_get hd)
  have h0 : (0 : Int) ≤ (d : Int) := by omega
  have h1 : (d : Int) < (n : Int) := by omega
  generalize ((f d : Nat) : Int) = v at *
  clear hr
  go_enter Try.func182, Try.ntmps182
  go_wp2
  go_ret
  exact ⟨rfl, rfl⟩

namespace Cv
theorem cycIn_take {f : Nat → Nat} {n i m : Nat} {ms : List Nat} (h : ms[i]? = some m) : cycIn f n (ms.take (i + 1)) = Mp.cycStep f n (cycIn f n (ms.take i)) m := by
  obtain ⟨hi, rfl⟩ := List.getElem?_eq_some_iff.1 h
  rw [List.take_succ_eq_append_getElem hi, cycIn_snoc]
theorem step_skip {f : Nat → Nat} {n m : Nat} {st : (Nat → Bool) × List (List Nat)} (h : Mp.cyc f (n + 1) st.1 m = []) : Mp.cycStep f n st m = st := by unfold Mp.cycStep; rw [if_pos h]
theorem step_more {f : Nat → Nat} {n m : Nat} {st : (Nat → Bool) × List (List Nat)} {c : List Nat} (h : Mp.cyc f (n + 1) st.1 m = c) (h0 : c ≠ []) : Mp.cycStep f n st m = (Mp.seen st.1 c, st.2 ++ [c]) := by
  unfold Mp.cycStep; rw [if_neg (by rw [h]; exact h0), h]
theorem cycIn_len (f : Nat → Nat) (n : Nat) (ms : List Nat) : (cycIn f n ms).2.length ≤ ms.length := by
  refine Cls.snoc_ind (p := fun ms => (cycIn f n ms).2.length ≤ ms.length) (Nat.le_refl _) (fun l m ih => ?_) ms
  rw [cycIn_snoc]
  by_cases h : Mp.cyc f (n + 1) (cycIn f n l).1 m = []
  · rw [step_skip h, List.length_append]; exact Nat.le_trans ih (by omega)
  · rw [step_more rfl h, List.length_append, List.length_append]; simp; omega
end Cv

set_option maxRecDepth 10000 in
set_option maxHeartbeats 4000000 in
theorem impl_cyclesAmong (am ai : Option Addr) (cm ci B n : Nat) (ms : List Nat) (f : Nat → Nat) (w : World) (hm : RowAt w am (intCells (intsOf ms))) (hB : B < w.heap.size) (c0 : w.cell? ⟨B, 0, none⟩ = some (.slice ai n ci)) (hr : RowAt w ai (intCells (Cls.row f n)))
    (hms : ∀ m ∈ ms, m < n) (hf : ∀ d, d < n → f d < n) (hn : n ≤ 24) (hl : ms.length ≤ 24) :
    Calls Try.prog 181 #[.slice am ms.length cm, .func (.func 182) #[] #[.pointer (some ⟨B, 0, none⟩)]] w fun e w' => GivesRows w (Mp.natRows (Cv.cycIn f n ms).2) e w' := by
  obtain ⟨i0, hi0, hz0, hz1, hz2⟩ := info_int_parts
  obtain ⟨j0, hj0, hy0, hy1, hy2⟩ := info_ints_parts
  have hfol := fun d W (hb : Below w.heap.size w W) (hd : d < n) => impl_follow B n ci d ai f W hd (by rw [hb.cell (p := ⟨B, 0, none⟩) hB]; exact c0) (hr.below hb)
  obtain ⟨R, hR⟩ : ∃ R, Mp.natRows (Cv.cycIn f n ms).2 = R := ⟨_, rfl⟩
  rw [hR]
  have Hi0 := Lib.hid hi0; have Hz0 := Lib.hid hz0; have Hz1 := Lib.hid hz1; have Hz2 := Lib.hid hz2
  have Hj0 := Lib.hid hj0; have Hy0 := Lib.hid hy0; have Hy1 := Lib.hid hy1; have Hy2 := Lib.hid hy2
  have Hm := Lib.hid hm; have Hms := Lib.hid hms; have Hf := Lib.hid hf; have Hfol := Lib.hid hfol; have HR := Lib.hid hR
  clear hi0 hz0 hz1 hz2 hj0 hy0 hy1 hy2 hm hms hf hfol hR c0 hr
  obtain ⟨N, hN⟩ : ∃ N, N = w.heap.size := ⟨_, rfl⟩
  have HN := Lib.hid hN
  rw [← hN] at Hfol
  clear hN
  go_enter Try.func181, Try.ntmps181
  go_wp2
  go_loopw [5, 6, 8, 9, 10, 13] (fun ov sv _ _ _ iv wr => ∃ i : Nat, i ≤ ms.length ∧ iv = .int .i64 i ∧ Hid (Below N w wr) ∧ ∃ (sh : Hd) (hs : List Hd) (sl : List Nat), sv = sh.val ∧ Hid (sh.l = intsOf sl) ∧ Hid (sl.length ≤ i * 24) ∧ Hid (∀ x, (Cv.cycIn f n (ms.take i)).1 x = decide (x ∈ sl)) ∧
      Hid (hs.map Hd.l = Mp.natRows (Cv.cycIn f n (ms.take i)).2) ∧ Hid (wr.ownsRow N 42 1 ov hs.length (hdCells hs)) ∧ Hid (Rws wr N (sh :: hs))) (fun _ _ _ _ _ iv _ => ms.length - (intOf iv).toNat)
  case atStart => exact ⟨0, by omega, rfl, Lib.hid (by rw [HN.out]; exact Below.refl _ _), Hd.none, [], [], rfl, Lib.hid rfl, Lib.hid (Nat.zero_le _), Lib.hid (fun x => by simp [Cv.cycIn]), Lib.hid rfl, Lib.hid (World.ownsRow_nil _ _ _ _), Lib.hid (Rws.nil.none)⟩
  case round =>
    obtain ⟨i, hi, rfl, hb, sh, hs, sl, rfl, hsl, hsn, hseen, hmap, hown, hrws⟩ := hrel
    by_cases hlt : i < ms.length
    · obtain ⟨m, hm⟩ := get_some hlt
      have hmn := Hms.out m (get_mem hm)
      obtain ⟨b, o, rfl, hbw, hcell⟩ := intCells_get? (Hm.out.below (by rw [← HN.out]; exact hb.out)) (intsOf_get hm)
      have htk := Cv.cycIn_take (f := f) (n := n) hm
      have hcl := Cv.cycIn_len f n (ms.take i)
      rw [List.length_take] at hcl
      have hhl : hs.length = (Cv.cycIn f n (ms.take i)).2.length := by have := congrArg List.length hmap.out; rwa [List.length_map, Mp.natRows_len] at this
      have hhs : hs.length ≤ 24 := by omega
      generalize hst : Cv.cycIn f n (ms.take i) = st at *
      have hsf : st.1 = fun x => decide (x ∈ sl) := funext hseen.out
      have Htk := Lib.hid htk; have Hst := Lib.hid hst; have Hsf := Lib.hid hsf
      have hNw : N ≤ wr.heap.size := by have := hb.out.size; have := HN.out; omega
      have hcell' : wr.cell? ⟨b, o + i, none⟩ = some (.int .i64 (m : Int)) := hcell
      clear htk hst hsf hcl hhl hm hcell
      obtain ⟨ova, ovc, rfl⟩ := own_len hown.out
      obtain ⟨wo, rfl⟩ : ∃ wo : World, wo = wr := ⟨_, rfl⟩
      have hmid := Mp.Mid.start f (fun x => decide (x ∈ sl)) hmn
      have Hmid := Lib.hid hmid
      have Hr0 := Lib.hid (show Rws wo N (Hd.none :: sh :: hs) from hrws.out.none)
      clear hmid hrws
      have hsnl := hsn.out
      go_wp2
      go_loopw [6, 9, 10] (fun sv cv dv wr => ∃ d : Nat, dv = .int .i64 d ∧ ∃ (cc : List Nat) (s2 c2 : Hd), sv = s2.val ∧ (∃ a c, cv = .slice a cc.length c) ∧ cv = c2.val ∧ Hid (s2.l = intsOf (sl ++ cc)) ∧ Hid (c2.l = intsOf cc) ∧ Hid (Mp.Mid f n (fun x => decide (x ∈ sl)) m cc d) ∧ Hid (Below N w wr) ∧ Hid (Rws wr N (c2 :: s2 :: hs)) ∧ Hid (wr.ownsRow N 42 1 (.slice ova hs.length ovc) hs.length (hdCells hs))) (fun _ cv _ _ => n + 1 - vLen cv)
      case atStart => exact ⟨m, rfl, [], sh, Hd.none, rfl, ⟨_, _, rfl⟩, rfl, Lib.hid (by rw [List.append_nil]; exact hsl.out), Lib.hid rfl, Hmid, hb, Hr0, hown⟩
      case round =>
        clear hb hown Hr0 Hmid hsl hcell'
        obtain ⟨d, rfl, cc, s2, c2, rfl, ⟨ca, ccp, hcv⟩, rfl, hs2, hc2, hmid, hb, hr, hown⟩ := hrel
        have hd := hmid.out.dlt
        have hccl := hmid.out.len
        obtain ⟨sa, sc, hse, hsr⟩ := hr.out.swap.row
        have hs2l : s2.l.length = sl.length + cc.length := by rw [hs2.out, intsOf_len, List.length_append]
        have hc2l : c2.l.length = cc.length := by rw [hc2.out, intsOf_len]
        have hcon := lib_Contains sa sc s2.l (d : Int) wr hsr (by rw [hs2l]; omega)
        have hseen2 : decide (((d : Nat) : Int) ∈ s2.l) = Mp.seen (fun x => decide (x ∈ sl)) cc d := by
          rw [hs2.out]
          unfold Mp.seen
          rw [Bool.eq_iff_iff, decide_eq_true_iff, Bool.or_eq_true, decide_eq_true_iff, decide_eq_true_iff, intsOf_mem, List.mem_append]
          exact Or.comm
        rw [hseen2] at hcon
        have hNw2 : N ≤ wr.heap.size := by have := hb.out.size; have := HN.out; omega
        by_cases hsd : Mp.seen (fun x => decide (x ∈ sl)) cc d = true
        · rw [hsd] at hcon
          have hstop := hmid.out.stop hsd
          have Hcon := Lib.hid hcon; have Hstop := Lib.hid hstop
          rw [hse]
          clear hcon hstop hseen2 hsd hsr
          by_cases hc0 : cc.length = 0
          · have hnil : cc = [] := List.eq_nil_of_length_eq_zero hc0
            have Hnil := Lib.hid hnil
            have hcv0 : c2.val = .slice ca 0 ccp := by rw [hcv, hc0]
            rw [hcv0]
            have Hse := Lib.hid hse
            clear hnil hc0 hcv hcv0 hs2l hc2l hse
            generalize s2.l.length = s2n at *
            go_wp2_with fail
            refine Hcon.out.mono ?_
            rintro e w3 ⟨rfl, hw3⟩
            rw [hw3]; clear hw3 w3
            go_wp2
            go_roundw
            case rel =>
              refine ⟨i + 1, by omega, by go_num, hb, s2, hs, sl, Hse.out.symm, Lib.hid (by rw [hs2.out, Hnil.out, List.append_nil]), Lib.hid (by omega), Lib.hid (fun x => ?_), Lib.hid ?_, hown, Lib.hid hr.out.tail⟩
              · rw [Htk.out, Cv.step_skip (by rw [Hsf.out, Hstop.out, Hnil.out]), Hsf.out]
              · rw [Htk.out, Cv.step_skip (by rw [Hsf.out, Hstop.out, Hnil.out])]; exact hmap.out
            case measure => simp [intOf]; omega
          · have hc1 : (0 : Int) < (cc.length : Int) := by omega
            have Hne := Lib.hid (show cc ≠ [] from fun e => hc0 (by rw [e]; rfl))
            have hm1 : hs.length + 1 ≤ maxLen := by unfold maxLen; omega
            have hm2 : (hs.length + 1) * 24 ≤ 140737488355328 := by omega
            have hca : c2.a = ca ∧ c2.c = ccp := by unfold Hd.val at hcv; injection hcv with h1 h2 h3; exact ⟨h1, h3⟩
            rw [hcv]
            have Hse := Lib.hid hse; have Hca := Lib.hid hca; have Hc2l := Lib.hid hc2l
            clear hc0 hcv hs2l hc2l hse hca
            generalize s2.l.length = s2n at *
            go_wp2_with fail
            refine Hcon.out.mono ?_
            rintro e w3 ⟨rfl, hw3⟩
            rw [hw3]; clear hw3 w3
            go_wp2_with (at_builtin; refine append_one rfl (.tmp 36) (.tmp 38) 24 rfl N 42 j0 _ 24 Try.underlying24 Hj0.out Hy0.out Hy1.out Hy2.out (by rfl) _ _ _ rfl hown.out (by rfl) _ rfl hm1 hm2 hNw2 ?_; intro v1 w1 hown1 hg1 _)
            go_roundw
            case rel =>
              have hvv : Value.slice ca cc.length ccp = c2.val := by unfold Hd.val; rw [Hca.out.1, Hca.out.2, Hc2l.out]
              have hg1' : (wr.alloc (.cells #[.slice ca cc.length ccp] 42)).grownBy w1 (Value.slice ova hs.length ovc).ownBlock := hg1
              have hr1 := (hr.out.alloc (.cells #[.slice ca cc.length ccp] 42)).grown (hown.out.alloc _) (by decide) hg1'
              refine ⟨i + 1, by omega, by go_num, Lib.hid (Below.grown (hb.out.alloc hNw2 _) hg1 (by simp; omega) (fun k hk => (hown.out.lt k hk).1)), s2, hs ++ [c2], sl ++ cc, Hse.out.symm, Lib.hid hs2.out, Lib.hid (by rw [List.length_append]; omega), Lib.hid (fun x => ?_), Lib.hid ?_, Lib.hid ?_, Lib.hid ?_⟩
              · rw [Htk.out, Cv.step_more (by rw [Hsf.out]; exact Hstop.out) Hne.out, Hsf.out]
                show Mp.seen (fun y => decide (y ∈ sl)) cc x = decide (x ∈ sl ++ cc)
                unfold Mp.seen
                rw [Bool.eq_iff_iff, decide_eq_true_iff, Bool.or_eq_true, decide_eq_true_iff, decide_eq_true_iff, List.mem_append]
                exact Or.comm
              · rw [Htk.out, Cv.step_more (by rw [Hsf.out]; exact Hstop.out) Hne.out, List.map_append, hmap.out, Mp.natRows_snoc]
                show _ ++ [c2.l] = _
                rw [hc2.out]
              · rw [← hdCells_snoc, List.length_append, ← hvv]; exact hown1
              · refine hr1.perm ?_
                refine (List.Perm.swap s2 c2 hs).trans ((List.perm_append_singleton c2 hs).symm.cons s2)
            case measure => simp [intOf]; omega
        · have hsd : Mp.seen (fun x => decide (x ∈ sl)) cc d = false := by simpa using hsd
          rw [hsd] at hcon
          have hstep := hmid.out.step hsd (Hf.out d hd)
          have Hcon := Lib.hid hcon; have Hstep := Lib.hid hstep
          have hos := hr.out.swap.head
          have hoc := hr.out.head
          rw [hse, hs2l] at hos
          rw [hcv, hc2l] at hoc
          have hpush := fun v1 w1 h1 h2 h3 => hr.out.swap.push (v1 := v1) (w1 := w1) (x := (d : Int)) h1 h2 h3
          rw [hse, hs2l] at hpush
          have hvs : s2.val = .slice sa (sl.length + cc.length) sc := by rw [hse, hs2l]
          rw [hs2l] at Hcon
          rw [hvs, hcv]
          have Hos := Lib.hid hos; have Hoc := Lib.hid hoc; have Hpush := Lib.hid hpush
          have hm1 : sl.length + cc.length + 1 ≤ maxLen := by unfold maxLen; omega
          have hm2 : (sl.length + cc.length + 1) * 8 ≤ 140737488355328 := by omega
          have hm3 : cc.length + 1 ≤ maxLen := by unfold maxLen; omega
          have hm4 : (cc.length + 1) * 8 ≤ 140737488355328 := by omega
          have Hcv := Lib.hid hcv; have Hc2l := Lib.hid hc2l
          clear hcon hstep hseen2 hsd hsr hse hs2l hos hoc hpush hvs hcv hc2l
          go_wp2_with fail
          refine Hcon.out.mono ?_
          rintro e w3 ⟨rfl, hw3⟩
          rw [hw3]; clear hw3 w3
          go_wp2_with (first
            | (at_builtin; refine append_one_new rfl (.tmp 25) (.tmp 27) 42 rfl N 3 i0 _ 8 Try.underlying42 Hi0.out Hz0.out Hz1.out Hz2.out (by rfl) _ _ _ rfl Hos.out (by rfl) _ rfl hm1 hm2 hNw2 ?_; intro v1 w1 hown1 hg1 hn1
               have hg1' : (wr.alloc (.cells #[.int .i64 (d : Int)] 3)).grownBy w1 (Value.slice sa (sl.length + cc.length) sc).ownBlock := hg1
               obtain ⟨s3, e1, rfl, hr3⟩ := Hpush.out v1 w1 hown1 hg1' hn1
               have hB1 := Below.grown (hb.out.alloc hNw2 _) hg1' (by simp; omega) (fun k hk => (Hos.out.lt k hk).1)
               have hN1 : N ≤ w1.heap.size := by have := hg1'.size; simp at this; omega
               have hoc1 := hr3.swap.head
               rw [Hcv.out, Hc2l.out] at hoc1
               have hpush1 := fun v2 w2 h1 h2 h3 => hr3.swap.push (v1 := v2) (w1 := w2) (x := (d : Int)) h1 h2 h3
               rw [Hcv.out, Hc2l.out] at hpush1
               have hown2 := own_types (hown.out.alloc (.cells #[.int .i64 (d : Int)] 3)) (Hos.out.alloc _) (by decide) hg1'
               have HB1 := Lib.hid hB1; have Hoc1 := Lib.hid hoc1; have Hpush1 := Lib.hid hpush1; have Hown2 := Lib.hid hown2; have He1 := Lib.hid e1
               clear hown1 hg1 hn1 hg1' hB1 hoc1 hpush1 hown2 e1 hr3)
            | (at_builtin; refine append_one_new rfl (.tmp 29) (.tmp 31) 42 rfl N 3 i0 _ 8 Try.underlying42 Hi0.out Hz0.out Hz1.out Hz2.out (by rfl) _ _ _ rfl Hoc1.out (by rfl) _ rfl hm3 hm4 hN1 ?_; intro v2 w2 hown3 hg3 hn3
               have hg3' : (w1.alloc (.cells #[.int .i64 (d : Int)] 3)).grownBy w2 (Value.slice ca cc.length ccp).ownBlock := hg3
               obtain ⟨c3, e3, rfl, hr4⟩ := Hpush1.out v2 w2 hown3 hg3' hn3
               have hB2 := Below.grown (HB1.out.alloc hN1 _) hg3' (by simp; omega) (fun k hk => (Hoc1.out.lt k hk).1)
               have hown4 := own_types (Hown2.out.alloc (.cells #[.int .i64 (d : Int)] 3)) (Hoc1.out.alloc _) (by decide) hg3'
               have HB2 := Lib.hid hB2; have Hown4 := Lib.hid hown4; have He3 := Lib.hid e3; have Hr4 := Lib.hid hr4
               clear hown3 hg3 hn3 hg3' hB2 hown4 e3 hr4)
            | (refine (Hfol.out d _ HB2.out hd).mono ?_
               rintro e w3 ⟨rfl, hw3⟩
               rw [hw3]; clear hw3 w3))
          go_roundw
          case rel => exact ⟨f d, rfl, cc ++ [d], s3, c3, rfl, ⟨c3.a, c3.c, by unfold Hd.val; rw [He3.out, hc2.out, List.length_append, intsOf_len, List.length_append]; rfl⟩, rfl, Lib.hid (by rw [He1.out, hs2.out, ← List.append_assoc, intsOf_snoc]), Lib.hid (by rw [He3.out, hc2.out, intsOf_snoc]), Hstep, HB2, Hr4, Hown4⟩
          case measure =>
            have : vLen c3.val = cc.length + 1 := by show c3.l.length = _; rw [He3.out, hc2.out, List.length_append, intsOf_len]; rfl
            rw [this]; simp [vLen]; omega
    · obtain rfl : i = ms.length := by omega
      rw [List.take_of_length_le (Nat.le_refl _)] at hmap
      obtain ⟨ga, gc, rfl, hgc, hgm, hgrid⟩ := hrws.out.tail.grid hown.out (Nat.le_refl _)
      rw [hmap.out, HR.out] at hgrid
      have hRl : hs.length = R.length := by rw [← HR.out, ← hmap.out, List.length_map]
      have Hgrid := Lib.hid hgrid; have HRl := Lib.hid hRl
      clear hgrid hRl
      generalize hs.length = hl' at *
      go_wp2
      go_ret
      refine ⟨ga, gc, by rw [← HRl.out]; rfl, by rw [← HRl.out]; exact hgc, hgm, by rw [← HN.out]; exact Hgrid.out, by rw [← HN.out]; exact hb.out⟩
set_option maxRecDepth 10000 in
set_option maxHeartbeats 1000000 in
theorem impl_sheetCycles (ai am : Option Addr) (ci cm n : Nat) (ms : List Nat) (f : Nat → Nat) (w : World) (hr : RowAt w ai (intCells (Cls.row f n))) (hm : RowAt w am (intCells (intsOf ms)))
    (hms : ∀ m ∈ ms, m < n) (hf : ∀ d, d < n → f d < n) (hn : n ≤ 24) (hl : ms.length ≤ 24) :
    Calls Try.prog 147 #[.slice ai n ci, .slice am ms.length cm] w fun e w' => GivesRows w (Mp.natRows (Cv.cycIn f n ms).2) e w' := by
  have hbA : Below w.heap.size w (w.alloc (.cells #[.slice ai n ci] 42)) := (Below.refl _ _).alloc (Nat.le_refl _) _
  have hK : Blk (w.alloc (.cells #[.slice ai n ci] 42)) w.heap.size 42 #[.slice ai n ci] := Blk.new w _ _
  have Hc := Lib.hid (impl_cyclesAmong am ai cm ci w.heap.size n ms f (w.alloc (.cells #[.slice ai n ci] 42)) (hm.below hbA) hK.lt (by rw [hK.cell 0]; rfl) (hr.below hbA) hms hf hn hl)
  have HA := Lib.hid hbA
  generalize Mp.natRows (Cv.cycIn f n ms).2 = R at *
  clear hr hm hms hf hbA hK
  go_enter Try.func147, Try.ntmps147
  go_wp2_with fail
  refine Hc.out.mono ?_
  rintro e w3 hg
  have Hg := Lib.hid (hg.later HA.out)
  obtain ⟨a, c, rfl, _⟩ := hg
  go_wp2
  go_ret
  exact Hg.out
end Go.Proofs.Ytodgongemoabiaa
