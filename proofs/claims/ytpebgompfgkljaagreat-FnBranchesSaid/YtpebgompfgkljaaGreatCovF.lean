/-
  Rows of integers of a call's own, each in a block of its own: one of them grows, the others stay. The walks of the program's cyclesAmong and sheetCycles. The walks of the model's l9Put and LiftLengths. The walk of the program's LiftLengths.
-/
import Derived.Test.YtpebgompfgkljaaGreatBase
import Derived.Test.YtpebgompfgkljaaGreatSlice
import Derived.Test.YtpebgompfgkljaaGreatIntRow
import Derived.Test.YtpebgompfgkljaaGreatInts
import Derived.Test.YtpebgompfgkljaaGreatOwn
import Derived.Test.YtpebgompfgkljaaGreatAppend
import Derived.Test.YtpebgompfgkljaaGreatGrid
import Derived.Test.YtpebgompfgkljaaGreatGridWalk
import Derived.Test.YtpebgompfgkljaaGreatGridRows
import Derived.Test.YtpebgompfgkljaaGreatClass
import Derived.Test.YtpebgompfgkljaaGreatLab
import Derived.Test.YtpebgompfgkljaaGreatMap
import Derived.Test.YtpebgompfgkljaaGreatMapA
import Derived.Test.YtpebgompfgkljaaGreatMapB
import Derived.Test.YtpebgompfgkljaaGreatCov
import Derived.Deep.QuietTactic
import Derived.BigQuiet
import Derived.StillTailTactics
import Derived.Test.YtpebgompfgkljaaGreatWord
import Derived.Test.YtpebgompfgkljaaGreatCovA
import Derived.Test.YtpebgompfgkljaaGreatShelfSort
import Derived.Test.YtpebgompfgkljaaGreatCovB
import Derived.Sort.OwnSortedInts
namespace Go.Proofs.YtpebgompfgkljaaGreat
open Go.RowKit

/-- Two rows lie in blocks of their own. -/
def Aprt (h h' : Hd) : Prop := ∀ b, h.val.ownBlock = some b → h'.val.ownBlock ≠ some b
theorem Aprt.symm {h h' : Hd} (a : Aprt h h') : Aprt h' h := fun b hb hb' => a b hb' hb
def Rws (w : World) (N : Nat) (hs : List Hd) : Prop := (∀ h ∈ hs, w.ownsRow N 3 1 h.val h.l.length (intCells h.l)) ∧ hs.Pairwise Aprt
def Hd.none : Hd := ⟨.none, 0, []⟩
theorem Hd.none_apart (h : Hd) : Aprt Hd.none h := fun b hb => by cases hb
section
variable {w w' : World} {N : Nat} {hs hs' : List Hd} {h : Hd}
theorem Rws.nil : Rws w N [] := ⟨fun _ h => (by cases h), List.Pairwise.nil⟩
theorem Rws.none (hr : Rws w N hs) : Rws w N (Hd.none :: hs) :=
  ⟨fun x hx => by
    rcases List.mem_cons.1 hx with rfl | hx
    · exact World.ownsRow_nil _ _ _ _
    · exact hr.1 x hx, List.pairwise_cons.2 ⟨fun x _ => Hd.none_apart x, hr.2⟩⟩
theorem Rws.perm (hr : Rws w N hs) (hp : hs.Perm hs') : Rws w N hs' :=
  ⟨fun x hx => hr.1 x (hp.mem_iff.2 hx), (hp.pairwise_iff (fun h => h.symm)).1 hr.2⟩
theorem Rws.tail (hr : Rws w N (h :: hs)) : Rws w N hs := ⟨fun x hx => hr.1 x (List.mem_cons_of_mem _ hx), (List.pairwise_cons.1 hr.2).2⟩
theorem Rws.head (hr : Rws w N (h :: hs)) : w.ownsRow N 3 1 h.val h.l.length (intCells h.l) := hr.1 h (List.mem_cons_self ..)
theorem Rws.swap {x y : Hd} (hr : Rws w N (x :: y :: hs)) : Rws w N (y :: x :: hs) := hr.perm (List.Perm.swap y x hs)
theorem Rws.below (hr : Rws w N hs) (hb : Below w.heap.size w w') : Rws w' N hs := ⟨fun x hx => own_keep (hr.1 x hx) hb (fun k hk => ((hr.1 x hx).lt k hk).2), hr.2⟩
theorem Rws.alloc (hr : Rws w N hs) (o : Obj) : Rws (w.alloc o) N hs := ⟨fun x hx => (hr.1 x hx).alloc o, hr.2⟩
/-- What has another type is none of the rows. -/
theorem Rws.grown {v : Value} {n M : Nat} {t : TypeId} {xs : List Value} (hr : Rws w N hs) (ho : w.ownsRow M t 1 v n xs) (ht : t ≠ 3) (hg : w.grownBy w' v.ownBlock) : Rws w' N hs := by
  refine ⟨fun x hx => (hr.1 x hx).kept hg ?_, hr.2⟩
  cases hb : v.ownBlock with
  | none =>
    cases hx2 : x.val.ownBlock with
    | none => exact Or.inl rfl
    | some k => right; intro e; cases e
  | some k =>
    right
    intro e
    obtain ⟨c1, h1⟩ := own_type ho k hb
    obtain ⟨c2, h2⟩ := own_type (hr.1 x hx) k e
    rw [h1] at h2
    injection h2 with h2; injection h2 with _ h2 _
    exact ht h2
theorem Rws.push {v1 : Value} {w1 : World} {x : Int} (hr : Rws w N (h :: hs))
    (hown : w1.ownsRow N 3 1 v1 (h.l.length + 1) (intCells h.l ++ [.int .i64 x])) (hg : (w.alloc (.cells #[.int .i64 x] 3)).grownBy w1 h.val.ownBlock)
    (hn : v1.ownBlock = h.val.ownBlock ∨ v1.ownBlock = some (w.alloc (.cells #[.int .i64 x] 3)).heap.size) :
    ∃ h' : Hd, h'.l = h.l ++ [x] ∧ h'.val = v1 ∧ Rws w1 N (h' :: hs) := by
  obtain ⟨a, c, rfl⟩ := own_len hown
  have hsz : (w.alloc (.cells #[.int .i64 x] 3)).heap.size = w.heap.size + 1 := by simp
  have hv : (⟨a, c, h.l ++ [x]⟩ : Hd).val = .slice a (h.l.length + 1) c := by simp [Hd.val]
  have hpw := List.pairwise_cons.1 hr.2
  refine ⟨⟨a, c, h.l ++ [x]⟩, rfl, hv, fun y hy => ?_, List.pairwise_cons.2 ⟨fun y hy b hb hb' => ?_, hpw.2⟩⟩
  · rcases List.mem_cons.1 hy with rfl | hy
    · rw [hv, List.length_append, ← intCells_snoc]; exact hown
    · refine ((hr.1 y (List.mem_cons_of_mem _ hy)).alloc _).kept hg ?_
      cases hb : y.val.ownBlock with
      | none => exact Or.inl rfl
      | some k => right; intro e; exact hpw.1 y hy k e.symm hb
  · rw [hv] at hb
    rcases hn with e | e
    · rw [e] at hb; exact hpw.1 y hy b hb hb'
    · rw [e] at hb
      have h1 := Option.some.inj hb
      have h2 := ((hr.1 y (List.mem_cons_of_mem _ hy)).lt b hb').2
      omega
/-- A row of one type stays while one of another type grows. -/
theorem own_types {v v2 : Value} {n n2 M M2 : Nat} {t t2 : TypeId} {xs xs2 : List Value} (h : w.ownsRow M t 1 v n xs) (h2 : w.ownsRow M2 t2 1 v2 n2 xs2) (ht : t ≠ t2) (hg : w.grownBy w' v2.ownBlock) : w'.ownsRow M t 1 v n xs := by
  refine h.kept hg ?_
  cases hb : v.ownBlock with
  | none => exact Or.inl rfl
  | some k =>
    right
    intro e
    obtain ⟨c1, h1⟩ := own_type h k hb
    obtain ⟨c2, h3⟩ := own_type h2 k e.symm
    rw [h1] at h3
    injection h3 with h3; injection h3 with _ h3 _
    exact ht h3
/-- The rows that a slice of the call's own holds. -/
theorem Rws.grid {v : Value} {M : Nat} (hr : Rws w N hs) (ho : w.ownsRow M 30 1 v hs.length (hdCells hs)) (hM : N ≤ M) : ∃ a c, v = .slice a hs.length c ∧ hs.length ≤ c ∧ c ≤ maxLen ∧ GridIn w N w.heap.size a (hs.map Hd.l) := by
  have hap : Apts hs := by
    refine ⟨?_, fun x hx => ?_⟩
    · rw [List.pairwise_iff_getElem]
      intro i j hi hj hij
      by_cases h1 : hs[i].l = []
      · exact Or.inl h1
      by_cases h2 : hs[j].l = []
      · exact Or.inr (Or.inl h2)
      right; right
      intro g o g' o' e1 e2
      have a1 := List.pairwise_iff_getElem.1 hr.2 i j hi hj hij
      obtain ⟨g1, c1, q1, _, _⟩ := own_form (hr.1 _ (List.getElem_mem hi)) (by cases hq : hs[i].l with | nil => exact absurd hq h1 | cons _ _ => simp)
      obtain ⟨g2, c2, q2, _, _⟩ := own_form (hr.1 _ (List.getElem_mem hj)) (by cases hq : hs[j].l with | nil => exact absurd hq h2 | cons _ _ => simp)
      have r1 : hs[i].a = some ⟨g1, 0, .none⟩ := by unfold Hd.val at q1; injection q1
      have r2 : hs[j].a = some ⟨g2, 0, .none⟩ := by unfold Hd.val at q2; injection q2
      rw [r1] at e1; rw [r2] at e2
      cases e1; cases e2
      rintro rfl
      exact a1 _ (by rw [q1]; rfl) (by rw [q2]; rfl)
    · obtain ⟨a, c, e, hc', _⟩ := own_fresh (hr.1 x hx) (by rw [intCells_len])
      have e2 : c = x.c := by unfold Hd.val at e; injection e with _ _ e; exact e.symm
      omega
  have hin : ∀ x ∈ hs, RowIn w N w.heap.size 3 x.a (intCells x.l) := fun x hx => by
    obtain ⟨a, c, e, _, hf⟩ := own_fresh (hr.1 x hx) (by rw [intCells_len])
    have e2 : a = x.a := by unfold Hd.val at e; injection e with e _ _; exact e.symm
    rw [e2] at hf
    exact RowIn.of_fresh hf
  exact grid_done (own_mono ho hM) rfl hin hap
theorem Rws.row (hr : Rws w N (h :: hs)) : ∃ a c, h.val = .slice a h.l.length c ∧ RowAt w a (intCells h.l) := own_row hr.head (by rw [intCells_len])
end
end Go.Proofs.YtpebgompfgkljaaGreat
namespace Go.Proofs.YtpebgompfgkljaaGreat
open Go.RowKit

set_option maxRecDepth 10000 in
set_option maxHeartbeats 1000000 in
theorem impl_follow (B n ci d : Nat) (ai : Option Addr) (f : Nat → Nat) (W : World) (hd : d < n) (c0 : W.cell? ⟨B, 0, none⟩ = some (.slice ai n ci)) (hr : RowAt W ai (intCells (Cls.row f n))) :
    Calls Tryz.prog 123 #[.int .i64 (d : Int), .pointer (some ⟨B, 0, none⟩)] W fun e W' => e = .returned (.int .i64 ((f d : Nat) : Int)) ∧ W' = W := by
  obtain ⟨b, o, rfl, hb, hc⟩ := intCells_get? hr (Cls.row_get hd)
  have h0 : (0 : Int) ≤ (d : Int) := by omega
  have h1 : (d : Int) < (n : Int) := by omega
  generalize ((f d : Nat) : Int) = v at *
  clear hr
  go_enter Tryz.func123, Tryz.ntmps123
  go_wp2
  go_ret
  exact ⟨rfl, rfl⟩

namespace Cv
theorem cycIn_take {f : Nat → Nat} {n i m : Nat} {ms : List Nat} (h : ms[i]? = some m) : cycIn f n (ms.take (i + 1)) = Mp.cycStep f n (cycIn f n (ms.take i)) m := by
  obtain ⟨hi, rfl⟩ := List.getElem?_eq_some_iff.1 h
  rw [List.take_succ_eq_append_getElem hi, cycIn_snoc]
theorem step_skip {f : Nat → Nat} {n m : Nat} {st : (Nat → Bool) × List (List Nat)} (h : Mp.cyc f (n + 1) st.1 m = []) : Mp.cycStep f n st m = st := by unfold Mp.cycStep; rw [if_pos h]
theorem step_more {f : Nat → Nat} {n m : Nat} {st : (Nat → Bool) × List (List Nat)} {c : List Nat} (h : Mp.cyc f (n + 1) st.1 m = c) (h0 : c ≠ []) : Mp.cycStep f n st m = (Mp.seen st.1 c, st.2 ++ [c]) := by
  unfold Mp.cycStep; rw [if_neg (by rw [h]; exact h0), h]
theorem cycIn_len (f : Nat → Nat) (n : Nat) (ms : List Nat) : (cycIn f n ms).2.length ≤ ms.length := by
  refine Cls.snoc_ind (p := fun ms => (cycIn f n ms).2.length ≤ ms.length) (Nat.le_refl _) (fun l m ih => ?_) ms
  rw [cycIn_snoc]
  by_cases h : Mp.cyc f (n + 1) (cycIn f n l).1 m = []
  · rw [step_skip h, List.length_append]; exact Nat.le_trans ih (by omega)
  · rw [step_more rfl h, List.length_append, List.length_append]; simp; omega
end Cv

set_option maxRecDepth 10000 in
set_option maxHeartbeats 4000000 in
theorem impl_cyclesAmong (am ai : Option Addr) (cm ci B n : Nat) (ms : List Nat) (f : Nat → Nat) (w : World) (hm : RowAt w am (intCells (intsOf ms))) (hB : B < w.heap.size) (c0 : w.cell? ⟨B, 0, none⟩ = some (.slice ai n ci)) (hr : RowAt w ai (intCells (Cls.row f n)))
    (hms : ∀ m ∈ ms, m < n) (hf : ∀ d, d < n → f d < n) (hn : n ≤ 24) (hl : ms.length ≤ 24) :
    Calls Tryz.prog 122 #[.slice am ms.length cm, .func (.func 123) #[] #[.pointer (some ⟨B, 0, none⟩)]] w fun e w' => GivesRows w (Mp.natRows (Cv.cycIn f n ms).2) e w' := by
  obtain ⟨i0, hi0, hz0, hz1, hz2⟩ := info_int_parts
  obtain ⟨j0, hj0, hy0, hy1, hy2⟩ := info_ints_parts
  have hfol := fun d W (hb : Below w.heap.size w W) (hd : d < n) => impl_follow B n ci d ai f W hd (by rw [hb.cell (p := ⟨B, 0, none⟩) hB]; exact c0) (hr.below hb)
  obtain ⟨R, hR⟩ : ∃ R, Mp.natRows (Cv.cycIn f n ms).2 = R := ⟨_, rfl⟩
  rw [hR]
  have Hi0 := Lib.hid hi0; have Hz0 := Lib.hid hz0; have Hz1 := Lib.hid hz1; have Hz2 := Lib.hid hz2
  have Hj0 := Lib.hid hj0; have Hy0 := Lib.hid hy0; have Hy1 := Lib.hid hy1; have Hy2 := Lib.hid hy2
  have Hm := Lib.hid hm; have Hms := Lib.hid hms; have Hf := Lib.hid hf; have Hfol := Lib.hid hfol; have HR := Lib.hid hR
  clear hi0 hz0 hz1 hz2 hj0 hy0 hy1 hy2 hm hms hf hfol hR c0 hr
  obtain ⟨N, hN⟩ : ∃ N, N = w.heap.size := ⟨_, rfl⟩
  have HN := Lib.hid hN
  rw [← hN] at Hfol
  clear hN
  go_enter Tryz.func122, Tryz.ntmps122
  go_wp2
  go_loopw [5, 6, 8, 9, 10, 13] (fun ov sv _ _ _ iv wr => ∃ i : Nat, i ≤ ms.length ∧ iv = .int .i64 i ∧ Hid (Below N w wr) ∧ ∃ (sh : Hd) (hs : List Hd) (sl : List Nat), sv = sh.val ∧ Hid (sh.l = intsOf sl) ∧ Hid (sl.length ≤ i * 24) ∧ Hid (∀ x, (Cv.cycIn f n (ms.take i)).1 x = decide (x ∈ sl)) ∧
      Hid (hs.map Hd.l = Mp.natRows (Cv.cycIn f n (ms.take i)).2) ∧ Hid (wr.ownsRow N 30 1 ov hs.length (hdCells hs)) ∧ Hid (Rws wr N (sh :: hs))) (fun _ _ _ _ _ iv _ => ms.length - (intOf iv).toNat)
  case atStart => exact ⟨0, by omega, rfl, Lib.hid (by rw [HN.out]; exact Below.refl _ _), Hd.none, [], [], rfl, Lib.hid rfl, Lib.hid (Nat.zero_le _), Lib.hid (fun x => by simp [Cv.cycIn]), Lib.hid rfl, Lib.hid (World.ownsRow_nil _ _ _ _), Lib.hid (Rws.nil.none)⟩
  case round =>
    obtain ⟨i, hi, rfl, hb, sh, hs, sl, rfl, hsl, hsn, hseen, hmap, hown, hrws⟩ := hrel
    by_cases hlt : i < ms.length
    · obtain ⟨m, hm⟩ := get_some hlt
      have hmn := Hms.out m (get_mem hm)
      obtain ⟨b, o, rfl, hbw, hcell⟩ := intCells_get? (Hm.out.below (by rw [← HN.out]; exact hb.out)) (intsOf_get hm)
      have htk := Cv.cycIn_take (f := f) (n := n) hm
      have hcl := Cv.cycIn_len f n (ms.take i)
      rw [List.length_take] at hcl
      have hhl : hs.length = (Cv.cycIn f n (ms.take i)).2.length := by have := congrArg List.length hmap.out; rwa [List.length_map, Mp.natRows_len] at this
      have hhs : hs.length ≤ 24 := by omega
      generalize hst : Cv.cycIn f n (ms.take i) = st at *
      have hsf : st.1 = fun x => decide (x ∈ sl) := funext hseen.out
      have Htk := Lib.hid htk; have Hst := Lib.hid hst; have Hsf := Lib.hid hsf
      have hNw : N ≤ wr.heap.size := by have := hb.out.size; have := HN.out; omega
      have hcell' : wr.cell? ⟨b, o + i, none⟩ = some (.int .i64 (m : Int)) := hcell
      clear htk hst hsf hcl hhl hm hcell
      obtain ⟨ova, ovc, rfl⟩ := own_len hown.out
      obtain ⟨wo, rfl⟩ : ∃ wo : World, wo = wr := ⟨_, rfl⟩
      have hmid := Mp.Mid.start f (fun x => decide (x ∈ sl)) hmn
      have Hmid := Lib.hid hmid
      have Hr0 := Lib.hid (show Rws wo N (Hd.none :: sh :: hs) from hrws.out.none)
      clear hmid hrws
      have hsnl := hsn.out
      go_wp2
      go_loopw [6, 9, 10] (fun sv cv dv wr => ∃ d : Nat, dv = .int .i64 d ∧ ∃ (cc : List Nat) (s2 c2 : Hd), sv = s2.val ∧ (∃ a c, cv = .slice a cc.length c) ∧ cv = c2.val ∧ Hid (s2.l = intsOf (sl ++ cc)) ∧ Hid (c2.l = intsOf cc) ∧ Hid (Mp.Mid f n (fun x => decide (x ∈ sl)) m cc d) ∧ Hid (Below N w wr) ∧ Hid (Rws wr N (c2 :: s2 :: hs)) ∧ Hid (wr.ownsRow N 30 1 (.slice ova hs.length ovc) hs.length (hdCells hs))) (fun _ cv _ _ => n + 1 - vLen cv)
      case atStart => exact ⟨m, rfl, [], sh, Hd.none, rfl, ⟨_, _, rfl⟩, rfl, Lib.hid (by rw [List.append_nil]; exact hsl.out), Lib.hid rfl, Hmid, hb, Hr0, hown⟩
      case round =>
        clear hb hown Hr0 Hmid hsl hcell'
        obtain ⟨d, rfl, cc, s2, c2, rfl, ⟨ca, ccp, hcv⟩, rfl, hs2, hc2, hmid, hb, hr, hown⟩ := hrel
        have hd := hmid.out.dlt
        have hccl := hmid.out.len
        obtain ⟨sa, sc, hse, hsr⟩ := hr.out.swap.row
        have hs2l : s2.l.length = sl.length + cc.length := by rw [hs2.out, intsOf_len, List.length_append]
        have hc2l : c2.l.length = cc.length := by rw [hc2.out, intsOf_len]
        have hcon := lib_Contains sa sc s2.l (d : Int) wr hsr (by rw [hs2l]; omega)
        have hseen2 : decide (((d : Nat) : Int) ∈ s2.l) = Mp.seen (fun x => decide (x ∈ sl)) cc d := by
          rw [hs2.out]
          unfold Mp.seen
          rw [Bool.eq_iff_iff, decide_eq_true_iff, Bool.or_eq_true, decide_eq_true_iff, decide_eq_true_iff, intsOf_mem, List.mem_append]
          exact Or.comm
        rw [hseen2] at hcon
        have hNw2 : N ≤ wr.heap.size := by have := hb.out.size; have := HN.out; omega
        by_cases hsd : Mp.seen (fun x => decide (x ∈ sl)) cc d = true
        · rw [hsd] at hcon
          have hstop := hmid.out.stop hsd
          have Hcon := Lib.hid hcon; have Hstop := Lib.hid hstop
          rw [hse]
          clear hcon hstop hseen2 hsd hsr
          by_cases hc0 : cc.length = 0
          · have hnil : cc = [] := List.eq_nil_of_length_eq_zero hc0
            have Hnil := Lib.hid hnil
            have hcv0 : c2.val = .slice ca 0 ccp := by rw [hcv, hc0]
            rw [hcv0]
            have Hse := Lib.hid hse
            clear hnil hc0 hcv hcv0 hs2l hc2l hse
            generalize s2.l.length = s2n at *
            go_wp2_with fail
            refine Hcon.out.mono ?_
            rintro e w3 ⟨rfl, hw3⟩
            rw [hw3]; clear hw3 w3
            go_wp2
            go_roundw
            case rel =>
              refine ⟨i + 1, by omega, by go_num, hb, s2, hs, sl, Hse.out.symm, Lib.hid (by rw [hs2.out, Hnil.out, List.append_nil]), Lib.hid (by omega), Lib.hid (fun x => ?_), Lib.hid ?_, hown, Lib.hid hr.out.tail⟩
              · rw [Htk.out, Cv.step_skip (by rw [Hsf.out, Hstop.out, Hnil.out]), Hsf.out]
              · rw [Htk.out, Cv.step_skip (by rw [Hsf.out, Hstop.out, Hnil.out])]; exact hmap.out
            case measure => simp [intOf]; omega
          · have hc1 : (0 : Int) < (cc.length : Int) := by omega
            have Hne := Lib.hid (show cc ≠ [] from fun e => hc0 (by rw [e]; rfl))
            have hm1 : hs.length + 1 ≤ maxLen := by unfold maxLen; omega
            have hm2 : (hs.length + 1) * 24 ≤ 140737488355328 := by omega
            have hca : c2.a = ca ∧ c2.c = ccp := by unfold Hd.val at hcv; injection hcv with h1 h2 h3; exact ⟨h1, h3⟩
            rw [hcv]
            have Hse := Lib.hid hse; have Hca := Lib.hid hca; have Hc2l := Lib.hid hc2l
            clear hc0 hcv hs2l hc2l hse hca
            generalize s2.l.length = s2n at *
            go_wp2_with fail
            refine Hcon.out.mono ?_
            rintro e w3 ⟨rfl, hw3⟩
            rw [hw3]; clear hw3 w3
            go_wp2_with (at_builtin; refine append_one rfl (.tmp 36) (.tmp 38) 24 rfl N 30 j0 _ 24 Tryz.underlying24 Hj0.out Hy0.out Hy1.out Hy2.out (by rfl) _ _ _ rfl hown.out (by rfl) _ rfl hm1 hm2 hNw2 ?_; intro v1 w1 hown1 hg1 _)
            go_roundw
            case rel =>
              have hvv : Value.slice ca cc.length ccp = c2.val := by unfold Hd.val; rw [Hca.out.1, Hca.out.2, Hc2l.out]
              have hg1' : (wr.alloc (.cells #[.slice ca cc.length ccp] 30)).grownBy w1 (Value.slice ova hs.length ovc).ownBlock := hg1
              have hr1 := (hr.out.alloc (.cells #[.slice ca cc.length ccp] 30)).grown (hown.out.alloc _) (by decide) hg1'
              refine ⟨i + 1, by omega, by go_num, Lib.hid (Below.grown (hb.out.alloc hNw2 _) hg1 (by simp; omega) (fun k hk => (hown.out.lt k hk).1)), s2, hs ++ [c2], sl ++ cc, Hse.out.symm, Lib.hid hs2.out, Lib.hid (by rw [List.length_append]; omega), Lib.hid (fun x => ?_), Lib.hid ?_, Lib.hid ?_, Lib.hid ?_⟩
              · rw [Htk.out, Cv.step_more (by rw [Hsf.out]; exact Hstop.out) Hne.out, Hsf.out]
                show Mp.seen (fun y => decide (y ∈ sl)) cc x = decide (x ∈ sl ++ cc)
                unfold Mp.seen
                rw [Bool.eq_iff_iff, decide_eq_true_iff, Bool.or_eq_true, decide_eq_true_iff, decide_eq_true_iff, List.mem_append]
                exact Or.comm
              · rw [Htk.out, Cv.step_more (by rw [Hsf.out]; exact Hstop.out) Hne.out, List.map_append, hmap.out, Mp.natRows_snoc]
                show _ ++ [c2.l] = _
                rw [hc2.out]
              · rw [← hdCells_snoc, List.length_append, ← hvv]; exact hown1
              · refine hr1.perm ?_
                refine (List.Perm.swap s2 c2 hs).trans ((List.perm_append_singleton c2 hs).symm.cons s2)
            case measure => simp [intOf]; omega
        · have hsd : Mp.seen (fun x => decide (x ∈ sl)) cc d = false := by simpa using hsd
          rw [hsd] at hcon
          have hstep := hmid.out.step hsd (Hf.out d hd)
          have Hcon := Lib.hid hcon; have Hstep := Lib.hid hstep
          have hos := hr.out.swap.head
          have hoc := hr.out.head
          rw [hse, hs2l] at hos
          rw [hcv, hc2l] at hoc
          have hpush := fun v1 w1 h1 h2 h3 => hr.out.swap.push (v1 := v1) (w1 := w1) (x := (d : Int)) h1 h2 h3
          rw [hse, hs2l] at hpush
          have hvs : s2.val = .slice sa (sl.length + cc.length) sc := by rw [hse, hs2l]
          rw [hs2l] at Hcon
          rw [hvs, hcv]
          have Hos := Lib.hid hos; have Hoc := Lib.hid hoc; have Hpush := Lib.hid hpush
          have hm1 : sl.length + cc.length + 1 ≤ maxLen := by unfold maxLen; omega
          have hm2 : (sl.length + cc.length + 1) * 8 ≤ 140737488355328 := by omega
          have hm3 : cc.length + 1 ≤ maxLen := by unfold maxLen; omega
          have hm4 : (cc.length + 1) * 8 ≤ 140737488355328 := by omega
          have Hcv := Lib.hid hcv; have Hc2l := Lib.hid hc2l
          clear hcon hstep hseen2 hsd hsr hse hs2l hos hoc hpush hvs hcv hc2l
          go_wp2_with fail
          refine Hcon.out.mono ?_
          rintro e w3 ⟨rfl, hw3⟩
          rw [hw3]; clear hw3 w3
          go_wp2_with (first
            | (at_builtin; refine append_one_new rfl (.tmp 25) (.tmp 27) 30 rfl N 3 i0 _ 8 Tryz.underlying30 Hi0.out Hz0.out Hz1.out Hz2.out (by rfl) _ _ _ rfl Hos.out (by rfl) _ rfl hm1 hm2 hNw2 ?_; intro v1 w1 hown1 hg1 hn1
               have hg1' : (wr.alloc (.cells #[.int .i64 (d : Int)] 3)).grownBy w1 (Value.slice sa (sl.length + cc.length) sc).ownBlock := hg1
               obtain ⟨s3, e1, rfl, hr3⟩ := Hpush.out v1 w1 hown1 hg1' hn1
               have hB1 := Below.grown (hb.out.alloc hNw2 _) hg1' (by simp; omega) (fun k hk => (Hos.out.lt k hk).1)
               have hN1 : N ≤ w1.heap.size := by have := hg1'.size; simp at this; omega
               have hoc1 := hr3.swap.head
               rw [Hcv.out, Hc2l.out] at hoc1
               have hpush1 := fun v2 w2 h1 h2 h3 => hr3.swap.push (v1 := v2) (w1 := w2) (x := (d : Int)) h1 h2 h3
               rw [Hcv.out, Hc2l.out] at hpush1
               have hown2 := own_types (hown.out.alloc (.cells #[.int .i64 (d : Int)] 3)) (Hos.out.alloc _) (by decide) hg1'
               have HB1 := Lib.hid hB1; have Hoc1 := Lib.hid hoc1; have Hpush1 := Lib.hid hpush1; have Hown2 := Lib.hid hown2; have He1 := Lib.hid e1
               clear hown1 hg1 hn1 hg1' hB1 hoc1 hpush1 hown2 e1 hr3)
            | (at_builtin; refine append_one_new rfl (.tmp 29) (.tmp 31) 30 rfl N 3 i0 _ 8 Tryz.underlying30 Hi0.out Hz0.out Hz1.out Hz2.out (by rfl) _ _ _ rfl Hoc1.out (by rfl) _ rfl hm3 hm4 hN1 ?_; intro v2 w2 hown3 hg3 hn3
               have hg3' : (w1.alloc (.cells #[.int .i64 (d : Int)] 3)).grownBy w2 (Value.slice ca cc.length ccp).ownBlock := hg3
               obtain ⟨c3, e3, rfl, hr4⟩ := Hpush1.out v2 w2 hown3 hg3' hn3
               have hB2 := Below.grown (HB1.out.alloc hN1 _) hg3' (by simp; omega) (fun k hk => (Hoc1.out.lt k hk).1)
               have hown4 := own_types (Hown2.out.alloc (.cells #[.int .i64 (d : Int)] 3)) (Hoc1.out.alloc _) (by decide) hg3'
               have HB2 := Lib.hid hB2; have Hown4 := Lib.hid hown4; have He3 := Lib.hid e3; have Hr4 := Lib.hid hr4
               clear hown3 hg3 hn3 hg3' hB2 hown4 e3 hr4)
            | (refine (Hfol.out d _ HB2.out hd).mono ?_
               rintro e w3 ⟨rfl, hw3⟩
               rw [hw3]; clear hw3 w3))
          go_roundw
          case rel => exact ⟨f d, rfl, cc ++ [d], s3, c3, rfl, ⟨c3.a, c3.c, by unfold Hd.val; rw [He3.out, hc2.out, List.length_append, intsOf_len, List.length_append]; rfl⟩, rfl, Lib.hid (by rw [He1.out, hs2.out, ← List.append_assoc, intsOf_snoc]), Lib.hid (by rw [He3.out, hc2.out, intsOf_snoc]), Hstep, HB2, Hr4, Hown4⟩
          case measure =>
            have : vLen c3.val = cc.length + 1 := by show c3.l.length = _; rw [He3.out, hc2.out, List.length_append, intsOf_len]; rfl
            rw [this]; simp [vLen]; omega
    · obtain rfl : i = ms.length := by omega
      rw [List.take_of_length_le (Nat.le_refl _)] at hmap
      obtain ⟨ga, gc, rfl, hgc, hgm, hgrid⟩ := hrws.out.tail.grid hown.out (Nat.le_refl _)
      rw [hmap.out, HR.out] at hgrid
      have hRl : hs.length = R.length := by rw [← HR.out, ← hmap.out, List.length_map]
      have Hgrid := Lib.hid hgrid; have HRl := Lib.hid hRl
      clear hgrid hRl
      generalize hs.length = hl' at *
      go_wp2
      go_ret
      refine ⟨ga, gc, by rw [← HRl.out]; rfl, by rw [← HRl.out]; exact hgc, hgm, by rw [← HN.out]; exact Hgrid.out, by rw [← HN.out]; exact hb.out⟩
set_option maxRecDepth 10000 in
set_option maxHeartbeats 1000000 in
theorem impl_sheetCycles (ai am : Option Addr) (ci cm n : Nat) (ms : List Nat) (f : Nat → Nat) (w : World) (hr : RowAt w ai (intCells (Cls.row f n))) (hm : RowAt w am (intCells (intsOf ms)))
    (hms : ∀ m ∈ ms, m < n) (hf : ∀ d, d < n → f d < n) (hn : n ≤ 24) (hl : ms.length ≤ 24) :
    Calls Tryz.prog 63 #[.slice ai n ci, .slice am ms.length cm] w fun e w' => GivesRows w (Mp.natRows (Cv.cycIn f n ms).2) e w' := by
  have hbA : Below w.heap.size w (w.alloc (.cells #[.slice ai n ci] 30)) := (Below.refl _ _).alloc (Nat.le_refl _) _
  have hK : Blk (w.alloc (.cells #[.slice ai n ci] 30)) w.heap.size 30 #[.slice ai n ci] := Blk.new w _ _
  have Hc := Lib.hid (impl_cyclesAmong am ai cm ci w.heap.size n ms f (w.alloc (.cells #[.slice ai n ci] 30)) (hm.below hbA) hK.lt (by rw [hK.cell 0]; rfl) (hr.below hbA) hms hf hn hl)
  have HA := Lib.hid hbA
  generalize Mp.natRows (Cv.cycIn f n ms).2 = R at *
  clear hr hm hms hf hbA hK
  go_enter Tryz.func63, Tryz.ntmps63
  go_wp2_with fail
  refine Hc.out.mono ?_
  rintro e w3 hg
  have Hg := Lib.hid (hg.later HA.out)
  obtain ⟨a, c, rfl, _⟩ := hg
  go_wp2
  go_ret
  exact Hg.out
end Go.Proofs.YtpebgompfgkljaaGreat
namespace Go.Proofs.YtpebgompfgkljaaGreat
open Go.RowKit

theorem Cv.row_cut {w : World} {b o c m : Nat} {l : List Int} (h : RowAt w (some ⟨b, o, none⟩) (intCells l)) (hm : m ≤ l.length) (hc : l.length ≤ c) : RowAt w (if c = m then some ⟨b, o, none⟩ else some ⟨b, o + m, none⟩) (intCells (l.drop m)) := by
  by_cases e : c = m
  · exact Or.inl (by rw [List.drop_eq_nil_of_le (by omega)]; rfl)
  · rw [if_neg e]
    rcases h with h | ⟨b', o', e', hlt, hc'⟩
    · left; have : l = [] := by simpa [intCells] using h
      rw [this]; simp [intCells]
    · cases e'
      refine Or.inr ⟨b, o + m, rfl, hlt, fun i v hv => ?_⟩
      rw [Nat.add_assoc]
      refine hc' (m + i) v ?_
      rw [show intCells (l.drop m) = (intCells l).drop m from by simp [intCells, List.map_drop], List.getElem?_drop] at hv
      exact hv
/-- From k on all are greater than x. -/
def Cv.Above (l : List Int) (x : Int) (k : Nat) : Prop := ∀ i v, k ≤ i → l[i]? = some v → x < v
theorem grown_trans {w w1 w2 : World} {r : Option Nat} (h : w.grownBy w1 r) (h' : w1.grownBy w2 r) : w.grownBy w2 r :=
  ⟨h'.os.trans h.os, h'.tape.trans h.tape, h'.output.trans h.output, Nat.le_trans h.size h'.size, fun k hk hne => (h'.block k (Nat.lt_of_lt_of_le hk h.size) hne).trans (h.block k hk hne)⟩
def Cv.Puts (N g : Nat) (l : List Int) (x : Int) (w : World) (e : Ending) (w' : World) : Prop :=
  ∃ g' cap' p, e = .returned (.slice (some ⟨g', 0, none⟩) (l.length + 1) cap') ∧ Cv.Cut l x p ∧ w'.ownsRow N 3 1 (.slice (some ⟨g', 0, none⟩) (l.length + 1) cap') (l.length + 1) (intCells (l.take p ++ [x] ++ l.drop p)) ∧ w.grownBy w' (some g) ∧ (g' = g ∨ w.heap.size ≤ g')
set_option maxRecDepth 10000 in
set_option maxHeartbeats 2000000 in
theorem spec_l9Put (N g cap : Nat) (l : List Int) (x : Int) (w : World) (hown : w.ownsRow N 3 1 (.slice (some ⟨g, 0, none⟩) l.length cap) l.length (intCells l)) (hN : N ≤ w.heap.size) (hl : l.length ≤ 1000) :
    Calls Tryz.prog 79 #[.slice (some ⟨g, 0, none⟩) l.length cap, .int .i64 x] w fun e w' => Cv.Puts N g l x w e w' := by
  obtain ⟨i0, hi0, hz0, hz1, hz2⟩ := info_int_parts
  have Hi0 := Lib.hid hi0; have Hz0 := Lib.hid hz0; have Hz1 := Lib.hid hz1; have Hz2 := Lib.hid hz2
  have hcap : l.length ≤ cap := by
    obtain ⟨a, c, e, hc, _⟩ := own_fresh hown (intCells_len l)
    cases e; exact hc
  have hglt := (hown.lt g rfl)
  have Hown := Lib.hid hown
  have Hrow := Lib.hid (show RowAt w (some ⟨g, 0, none⟩) (intCells l) from by
    obtain ⟨a, c, e, hr⟩ := own_row hown (intCells_len l)
    cases e; exact hr)
  clear hown hi0 hz0 hz1 hz2
  go_enter Tryz.func79, Tryz.ntmps79
  go_wp2
  go_loopw [5] (fun kv wr => ∃ k : Nat, k ≤ l.length ∧ kv = .int .i64 k ∧ Hid (Cv.Above l x k) ∧ wr = w) (fun kv _ => (intOf kv).toNat)
  case atStart => exact ⟨l.length, Nat.le_refl _, rfl, Lib.hid (fun i v h hv => absurd (List.getElem?_eq_some_iff.1 hv).1 (by omega)), rfl⟩
  case round =>
    obtain ⟨k, hk, rfl, hab, rfl⟩ := hrel
    have hend : (k = 0 ∨ ∀ v, l[k - 1]? = some v → v ≤ x) → Hid (Cv.Cut l x k) := fun h => Lib.hid ⟨hk, hab.out, h⟩
    by_cases hgo : 0 < k ∧ ∃ v, l[k - 1]? = some v ∧ x < v
    · obtain ⟨h0, y, hy, hxy⟩ := hgo
      obtain ⟨b, o, e0, hbw, hcell⟩ := intCells_get? Hrow.out hy
      cases e0
      rw [Nat.zero_add] at hcell
      have Hab := Lib.hid (show Cv.Above l x (k - 1) from fun i v hi hv => by
        rcases Nat.lt_or_ge i k with h | h
        · obtain rfl : i = k - 1 := by omega
          rw [hy] at hv; cases hv; exact hxy
        · exact hab.out i v h hv)
      obtain ⟨j, rfl⟩ : ∃ j, k = j + 1 := ⟨k - 1, by omega⟩
      rw [Nat.add_sub_cancel] at hcell Hab
      have d0 : (0 : Int) < ((j + 1 : Nat) : Int) := by omega
      have e1 : IntKind.i64.wrap (((j + 1 : Nat) : Int) - 1) = (j : Int) := by rw [wrap_small (by omega) (by omega)]; omega
      have e2 : (((j + 1 : Nat) : Int) - 1) = (j : Int) := by omega
      have j0 : (0 : Int) ≤ (j : Int) := by omega
      have j1 : (j : Int) < (l.length : Int) := by omega
      have dx : x < y := hxy
      clear hy hend h0
      generalize ((j + 1 : Nat) : Int) = z at *
      go_wp2
      go_roundw
      case rel => exact ⟨j, by omega, rfl, Hab, trivial⟩
      case measure => simp [intOf]; omega
    · have hcut := hend (by
        rcases Nat.eq_zero_or_pos k with h | h
        · exact Or.inl h
        · right; intro v hv
          have : ¬ x < v := fun hlt => hgo ⟨h, v, hv, hlt⟩
          omega)
      obtain ⟨A2, hA2⟩ : ∃ A2, (if cap = k then some (⟨g, 0, none⟩ : Addr) else some ⟨g, 0 + k, none⟩) = A2 := ⟨_, rfl⟩
      have hrA := Cv.row_cut (c := cap) (m := k) Hrow.out hk hcap
      rw [hA2] at hrA
      rw [Nat.zero_add] at hA2
      have HrA := Lib.hid hrA
      have hal : Below wr.heap.size wr (wr.alloc (.cells #[] 3)) := (Below.refl _ _).alloc (Nat.le_refl _) _
      have Hmk := Lib.hid (own_made (w := wr) rfl)
      have HrM := Lib.hid (HrA.out.below hal)
      have Hal := Lib.hid hal
      have hl2 : (intCells (l.drop k)).length = l.length - k := by rw [intCells_len, List.length_drop]
      have Hl2 := Lib.hid hl2
      have Htk := Lib.hid (show (intCells l).take k = intCells (l.take k) from intCells_take l k)
      have Htl := Lib.hid (show (l.take k).length = k by rw [List.length_take]; omega)
      have a7 : 0 + (l.length - k) ≤ maxLen := by unfold maxLen; omega
      have a8 : (0 + (l.length - k)) * 8 ≤ 140737488355328 := by omega
      have a3 : k + 1 ≤ maxLen := by unfold maxLen; omega
      have a4 : (k + 1) * 8 ≤ 140737488355328 := by omega
      have a5 : k + 1 + (l.length - k) ≤ maxLen := by unfold maxLen; omega
      have a6 : (k + 1 + (l.length - k)) * 8 ≤ 140737488355328 := by omega
      have hkc : (k : Int) ≤ (cap : Int) := by omega
      have hkl : (k : Int) ≤ (l.length : Int) := by omega
      have hk0 : (0 : Int) ≤ (k : Int) := by omega
      have hkc' : k ≤ cap := by omega
      clear hal hrA hl2 hend hab
      have HN := Lib.hid hN
      have htest : (k = 0) ∨ (0 < k ∧ ∃ (j : Nat) (y : Int), (k : Int) - 1 = (j : Int) ∧ j < l.length ∧ wr.cell? ⟨g, j, none⟩ = some (.int .i64 y) ∧ ¬ x < y) := by
        rcases Nat.eq_zero_or_pos k with h | h
        · exact Or.inl h
        · right
          obtain ⟨y, hy⟩ := get_some (show k - 1 < l.length by omega)
          obtain ⟨b, o, e0, hbw, hcell⟩ := intCells_get? Hrow.out hy
          cases e0
          rw [Nat.zero_add] at hcell
          exact ⟨h, k - 1, y, by omega, by omega, hcell, fun hlt => hgo ⟨h, y, hy, hlt⟩⟩
      clear hgo
      rcases htest with h0 | ⟨h0, j, y, e2, j1', hcell, dx⟩
      · have hq : ¬ (0 : Int) < (k : Int) := by omega
        clear h0
        go_wp2_with (first
          | (at_builtin; refine append_row rfl (.tmp 22) (.tmp 25) 30 rfl wr.heap.size 3 i0 _ 8 Tryz.underlying30 Hi0.out Hz0.out Hz1.out Hz2.out (by rfl) _ 0 (intCells []) rfl Hmk.out A2 (l.length - k) _ (intCells (l.drop k)) rfl HrM.out Hl2.out (intCells_one _) a7 a8 Hal.out.size ?_; intro v2 w2 hown2 hg2
             rw [Nat.zero_add] at hown2
             have hb2 := Below.grown Hal.out hg2 Hal.out.size (fun k hk => (Hmk.out.lt k hk).1)
             obtain ⟨ra, rc, rfl, hrr⟩ := own_row hown2 Hl2.out
             have hl' := own_take (own_keep Hown.out hb2 (fun k hk => (Hown.out.lt k hk).2)) hk
             rw [Htk.out] at hl'
             have Hb2 := Lib.hid hb2; have Hrest := Lib.hid (show w2.ownsRow wr.heap.size 3 1 (.slice ra (l.length - k) rc) (l.length - k) (intCells (l.drop k)) from hown2); have Hl' := Lib.hid hl'
             have hN2 : N ≤ w2.heap.size := Nat.le_trans HN.out hb2.size
             clear hown2 hg2 hb2 hrr hl')
          | (at_builtin; refine append_one_new rfl (.tmp 29) (.tmp 31) 30 rfl N 3 i0 _ 8 Tryz.underlying30 Hi0.out Hz0.out Hz1.out Hz2.out (by rfl) _ _ _ rfl Hl'.out (by rfl) _ rfl a3 a4 hN2 ?_; intro v3 w3 hown3 hg3 hn3
             have hg3' : (w2.alloc (.cells #[.int .i64 x] 3)).grownBy w3 (Value.slice (some ⟨g, 0, none⟩) k cap).ownBlock := hg3
             have hrest3 := (Hrest.out.alloc (.cells #[.int .i64 x] 3)).kept hg3' (by
               cases hq : (Value.slice ra (l.length - k) rc).ownBlock with
               | none => exact Or.inl rfl
               | some q =>
                 right
                 intro e
                 have h1 := (Hrest.out.lt q hq).1
                 have h2 : q = g := by have := Option.some.inj (e : some q = some g); exact this
                 omega)
             obtain ⟨ra', rc', e3, hrr3⟩ := own_row hrest3 Hl2.out
             cases e3
             have hG3 : wr.grownBy w3 (some g) := grown_trans (only_of_below (Hb2.out.alloc Hb2.out.size _) (some g)) hg3'
             have hz3 : wr.heap.size ≤ w3.heap.size := hG3.size
             have hn3' : v3.ownBlock = some g ∨ v3.ownBlock = some (w2.alloc (.cells #[.int .i64 x] 3)).heap.size := hn3
             have hz2 : wr.heap.size ≤ (w2.alloc (.cells #[.int .i64 x] 3)).heap.size := by have := Hb2.out.size; simp; omega
             have hn3'' : ∀ q, v3.ownBlock = some q → q = g ∨ wr.heap.size ≤ q := fun q hq => by
               rcases hn3' with e | e
               · left; rw [e] at hq; exact (Option.some.inj hq).symm
               · right; rw [e] at hq; have := Option.some.inj hq; omega
             have Hrr3 := Lib.hid hrr3; have Hown3 := Lib.hid hown3; have HG3 := Lib.hid hG3; have Hn3 := Lib.hid hn3''
             have hN3 : N ≤ w3.heap.size := by have := hg3'.size; simp at this; omega
             clear hown3 hg3 hg3' hrest3 hrr3 hG3 hn3 hn3' hn3'' hz2)
          | (at_builtin; refine append_row_new rfl (.tmp 32) (.tmp 33) 30 rfl N 3 i0 _ 8 Tryz.underlying30 Hi0.out Hz0.out Hz1.out Hz2.out (by rfl) _ _ _ rfl Hown3.out ra (l.length - k) _ (intCells (l.drop k)) rfl Hrr3.out Hl2.out (intCells_one _) a5 a6 hN3 ?_; intro v4 w4 hown4 hg4 hn4
             have hG4 : wr.grownBy w4 (some g) := ⟨hg4.os.trans HG3.out.os, hg4.tape.trans HG3.out.tape, hg4.output.trans HG3.out.output, Nat.le_trans HG3.out.size hg4.size, fun q hq hne => by
               refine (hg4.block q (Nat.lt_of_lt_of_le hq HG3.out.size) (fun e => ?_)).trans (HG3.out.block q hq hne)
               rcases Hn3.out q e.symm with h | h
               · exact hne (by rw [h])
               · omega⟩
             have hn4' : ∀ q, v4.ownBlock = some q → q = g ∨ wr.heap.size ≤ q := fun q hq => by
               rcases hn4 with e | e
               · rw [e] at hq; exact Hn3.out q hq
               · right; rw [e] at hq; have := Option.some.inj hq; omega
             rw [show k + 1 + (l.length - k) = l.length + 1 by omega] at hown4
             obtain ⟨g', cap', rfl, _, _⟩ := own_form hown4 (by omega)
             have Hown4 := Lib.hid hown4; have HG4 := Lib.hid hG4; have Hn4 := Lib.hid (hn4' g' rfl)
             clear hown4 hg4 hG4 hn4 hn4'))
        go_ret
        refine ⟨g', cap', k, rfl, hcut.out, ?_, HG4.out, Hn4.out⟩
        have h := Hown4.out
        rw [show intCells (l.take k) ++ [Value.int .i64 x] ++ intCells (l.drop k) = intCells (l.take k ++ [x] ++ l.drop k) from by simp [intCells]] at h
        exact h
      · have d0 : (0 : Int) < (k : Int) := by omega
        have e1 : IntKind.i64.wrap ((k : Int) - 1) = (j : Int) := by rw [wrap_small (by omega) (by omega)]; omega
        have j0 : (0 : Int) ≤ (j : Int) := by omega
        have j1 : (j : Int) < (l.length : Int) := by omega
        clear h0 j1'
        go_wp2_with (first
          | (at_builtin; refine append_row rfl (.tmp 22) (.tmp 25) 30 rfl wr.heap.size 3 i0 _ 8 Tryz.underlying30 Hi0.out Hz0.out Hz1.out Hz2.out (by rfl) _ 0 (intCells []) rfl Hmk.out A2 (l.length - k) _ (intCells (l.drop k)) rfl HrM.out Hl2.out (intCells_one _) a7 a8 Hal.out.size ?_; intro v2 w2 hown2 hg2
             rw [Nat.zero_add] at hown2
             have hb2 := Below.grown Hal.out hg2 Hal.out.size (fun k hk => (Hmk.out.lt k hk).1)
             obtain ⟨ra, rc, rfl, hrr⟩ := own_row hown2 Hl2.out
             have hl' := own_take (own_keep Hown.out hb2 (fun k hk => (Hown.out.lt k hk).2)) hk
             rw [Htk.out] at hl'
             have Hb2 := Lib.hid hb2; have Hrest := Lib.hid (show w2.ownsRow wr.heap.size 3 1 (.slice ra (l.length - k) rc) (l.length - k) (intCells (l.drop k)) from hown2); have Hl' := Lib.hid hl'
             have hN2 : N ≤ w2.heap.size := Nat.le_trans HN.out hb2.size
             clear hown2 hg2 hb2 hrr hl')
          | (at_builtin; refine append_one_new rfl (.tmp 29) (.tmp 31) 30 rfl N 3 i0 _ 8 Tryz.underlying30 Hi0.out Hz0.out Hz1.out Hz2.out (by rfl) _ _ _ rfl Hl'.out (by rfl) _ rfl a3 a4 hN2 ?_; intro v3 w3 hown3 hg3 hn3
             have hg3' : (w2.alloc (.cells #[.int .i64 x] 3)).grownBy w3 (Value.slice (some ⟨g, 0, none⟩) k cap).ownBlock := hg3
             have hrest3 := (Hrest.out.alloc (.cells #[.int .i64 x] 3)).kept hg3' (by
               cases hq : (Value.slice ra (l.length - k) rc).ownBlock with
               | none => exact Or.inl rfl
               | some q =>
                 right
                 intro e
                 have h1 := (Hrest.out.lt q hq).1
                 have h2 : q = g := by have := Option.some.inj (e : some q = some g); exact this
                 omega)
             obtain ⟨ra', rc', e3, hrr3⟩ := own_row hrest3 Hl2.out
             cases e3
             have hG3 : wr.grownBy w3 (some g) := grown_trans (only_of_below (Hb2.out.alloc Hb2.out.size _) (some g)) hg3'
             have hz3 : wr.heap.size ≤ w3.heap.size := hG3.size
             have hn3' : v3.ownBlock = some g ∨ v3.ownBlock = some (w2.alloc (.cells #[.int .i64 x] 3)).heap.size := hn3
             have hz2 : wr.heap.size ≤ (w2.alloc (.cells #[.int .i64 x] 3)).heap.size := by have := Hb2.out.size; simp; omega
             have hn3'' : ∀ q, v3.ownBlock = some q → q = g ∨ wr.heap.size ≤ q := fun q hq => by
               rcases hn3' with e | e
               · left; rw [e] at hq; exact (Option.some.inj hq).symm
               · right; rw [e] at hq; have := Option.some.inj hq; omega
             have Hrr3 := Lib.hid hrr3; have Hown3 := Lib.hid hown3; have HG3 := Lib.hid hG3; have Hn3 := Lib.hid hn3''
             have hN3 : N ≤ w3.heap.size := by have := hg3'.size; simp at this; omega
             clear hown3 hg3 hg3' hrest3 hrr3 hG3 hn3 hn3' hn3'' hz2)
          | (at_builtin; refine append_row_new rfl (.tmp 32) (.tmp 33) 30 rfl N 3 i0 _ 8 Tryz.underlying30 Hi0.out Hz0.out Hz1.out Hz2.out (by rfl) _ _ _ rfl Hown3.out ra (l.length - k) _ (intCells (l.drop k)) rfl Hrr3.out Hl2.out (intCells_one _) a5 a6 hN3 ?_; intro v4 w4 hown4 hg4 hn4
             have hG4 : wr.grownBy w4 (some g) := ⟨hg4.os.trans HG3.out.os, hg4.tape.trans HG3.out.tape, hg4.output.trans HG3.out.output, Nat.le_trans HG3.out.size hg4.size, fun q hq hne => by
               refine (hg4.block q (Nat.lt_of_lt_of_le hq HG3.out.size) (fun e => ?_)).trans (HG3.out.block q hq hne)
               rcases Hn3.out q e.symm with h | h
               · exact hne (by rw [h])
               · omega⟩
             have hn4' : ∀ q, v4.ownBlock = some q → q = g ∨ wr.heap.size ≤ q := fun q hq => by
               rcases hn4 with e | e
               · rw [e] at hq; exact Hn3.out q hq
               · right; rw [e] at hq; have := Option.some.inj hq; omega
             rw [show k + 1 + (l.length - k) = l.length + 1 by omega] at hown4
             obtain ⟨g', cap', rfl, _, _⟩ := own_form hown4 (by omega)
             have Hown4 := Lib.hid hown4; have HG4 := Lib.hid hG4; have Hn4 := Lib.hid (hn4' g' rfl)
             clear hown4 hg4 hG4 hn4 hn4'))
        go_ret
        refine ⟨g', cap', k, rfl, hcut.out, ?_, HG4.out, Hn4.out⟩
        have h := Hown4.out
        rw [show intCells (l.take k) ++ [Value.int .i64 x] ++ intCells (l.drop k) = intCells (l.take k ++ [x] ++ l.drop k) from by simp [intCells]] at h
        exact h

namespace Cv
theorem actW_isP (L : List (List Int)) (w : List Int) : Mp.IsP (actW L w) := by
  unfold actW
  split
  · rename_i h; exact row_isP h
  · exact ⟨fun x h => (by cases h), List.nodup_nil⟩
theorem lifts_eq (L : List (List Int)) (w : List Int) : lifts L w = ((Mp.cycles (actW L w)).map fun r => (r.length : Int)).mergeSort := by
  unfold lifts actW
  split
  · rename_i h
    rw [cycles_row h]
    congr 1
    unfold Mp.natRows
    rw [List.map_map]
    exact List.map_congr_left fun c _ => by simp
  · rw [show Mp.cycles [] = [] from rfl]; simp
theorem cycles_few (L : List (List Int)) (w : List Int) : (Mp.cycles (actW L w)).length ≤ 5 := by
  have := lifts_len L w
  rw [lifts_eq, List.length_mergeSort, List.length_map] at this
  exact this
end Cv
theorem Cv.actW_len5 (L : List (List Int)) (w : List Int) : (Cv.actW L w).length ≤ 5 := by
  unfold Cv.actW
  split
  · rename_i h; rw [Cv.row_len]; exact h.1.2.2.2.2
  · simp
set_option maxRecDepth 10000 in
set_option maxHeartbeats 2000000 in
theorem spec_LiftLengths (a aw : Option Addr) (c cw : Nat) (L : List (List Int)) (l : List Int) (w : World) (ha : GridAt w a L) (hL : ∀ p ∈ L, p.length ≤ 1048576) (hn : L.length ≤ 1048576) (haw : RowAt w aw (intCells l)) (hl : l.length ≤ 1048576) :
    Calls Tryz.prog 18 #[.slice a L.length c, .slice aw l.length cw] w fun e w' => Gives w (Cv.lifts L l) e w' := by
  have hbA : Below w.heap.size w (w.alloc (.cells #[] 3)) := (Below.refl _ _).alloc (Nat.le_refl _) _
  have hA := spec_ActWord a aw c cw L l (w.alloc (.cells #[] 3)) (ha.below hbA) hL hn (haw.below hbA) hl
  have hC := fun ra rc W (h : RowAt W ra (intCells (Cv.actW L l))) => spec_l6CyclesP ra rc (Cv.actW L l) W h (Cv.actW_isP L l) (Nat.le_trans (Cv.actW_len5 L l) (by decide))
  rw [Cv.lifts_eq]
  have hfew := Cv.cycles_few L l
  generalize Mp.cycles (Cv.actW L l) = C at *
  generalize Cv.actW L l = A at *
  have hmk := own_made (w := w) rfl
  have Hmk := Lib.hid hmk; have HA := Lib.hid hA; have HC := Lib.hid hC; have HbA := Lib.hid hbA
  clear hA hC hbA ha haw hL hmk
  go_enter Tryz.func18, Tryz.ntmps18
  go_wp2_with fail
  refine HA.out.mono ?_
  rintro e w1 ⟨ra, rc, rfl, _, _, hf1, hb1⟩
  have Hf1 := Lib.hid hf1.row
  have hm1 := own_keep Hmk.out hb1 (fun k hk => (Hmk.out.lt k hk).2)
  have Hb1 := Lib.hid (HbA.out.trans (hb1.mono HbA.out.size)); have Hm1 := Lib.hid hm1
  clear hf1 hb1 hm1
  go_wp2_with fail
  refine (HC.out ra rc w1 Hf1.out).mono ?_
  rintro e w2 ⟨ca, cc, rfl, _, _, hg2, hb2⟩
  have hm2 := own_keep Hm1.out hb2 (fun k hk => (Hm1.out.lt k hk).2)
  have Hb2 := Lib.hid (Hb1.out.trans (hb2.mono Hb1.out.size)); have Hg2 := Lib.hid hg2
  have Hm2 := Lib.hid (show w2.ownsRow w.heap.size 3 1 (.slice (some ⟨w.heap.size, 0, none⟩) 0 0) 0 (intCells []) from hm2)
  have hlo : w.heap.size < w1.heap.size := by have := (Hm1.out.lt w.heap.size rfl).2; exact this
  have hhi : w1.heap.size ≤ w2.heap.size := hb2.size
  obtain ⟨lo, hlo'⟩ : ∃ lo, w1.heap.size = lo := ⟨_, rfl⟩
  obtain ⟨hi, hhi'⟩ : ∃ hi, w2.heap.size = hi := ⟨_, rfl⟩
  rw [hlo'] at hlo hhi
  rw [hhi'] at hhi
  have Hlo := Lib.hid hlo'; have Hhi := Lib.hid hhi'
  clear hg2 hb2 hm2 hlo' hhi'
  go_wp2
  go_loopw [5, 7] (fun ov iv wr => ∃ i : Nat, i ≤ C.length ∧ iv = .int .i64 i ∧ ∃ g cap, ov = .slice (some ⟨g, 0, none⟩) i cap ∧ (g < lo ∨ hi ≤ g) ∧ hi ≤ wr.heap.size ∧ Hid (Below w.heap.size w wr) ∧ Hid (GridIn wr lo hi ca C) ∧ Hid (∃ r : List Int, r.length = i ∧ wr.ownsRow w.heap.size 3 1 (.slice (some ⟨g, 0, none⟩) i cap) i (intCells r) ∧ r.Perm ((C.take i).map fun r => (r.length : Int)) ∧ r.Pairwise (· ≤ ·))) (fun _ iv _ => C.length - (intOf iv).toNat)
  case atStart => exact ⟨0, by omega, rfl, w.heap.size, 0, rfl, Or.inl hlo, by rw [Hhi.out]; exact Nat.le_refl _, Hb2, Lib.hid (by rw [← Hlo.out, ← Hhi.out]; exact Hg2.out), Lib.hid ⟨[], rfl, Hm2.out, List.Perm.refl _, List.Pairwise.nil⟩⟩
  case round =>
    obtain ⟨i, hi', rfl, g, cap, rfl, hgo, hsz, hb, hgr, hrow⟩ := hrel
    by_cases hlt : i < C.length
    · obtain ⟨q, hq⟩ := get_some hlt
      obtain ⟨b, o, ai, ci, rfl, hbw, hcell, _⟩ := hgr.out.grid.get hq
      obtain ⟨r, hrl, hown, hperm, hsort⟩ := hrow.out
      have hP := spec_l9Put w.heap.size g cap r (q.length : Int) wr (by rw [hrl]; exact hown) hb.out.size (by omega)
      rw [hrl] at hP
      have hnext : ∀ p, Cv.Cut r (q.length : Int) p → ((r.take p ++ [(q.length : Int)] ++ r.drop p).Perm ((C.take (i + 1)).map fun r => (r.length : Int)) ∧ (r.take p ++ [(q.length : Int)] ++ r.drop p).Pairwise (· ≤ ·) ∧ (r.take p ++ [(q.length : Int)] ++ r.drop p).length = i + 1) := fun p hp => by
        obtain ⟨hl2, rfl⟩ := List.getElem?_eq_some_iff.1 hq
        refine ⟨?_, Cv.cut_sorted hp hsort, ?_⟩
        · rw [List.take_succ_eq_append_getElem hl2, List.map_append]
          exact (Cv.cut_perm r _ p).trans (hperm.append_right _)
        · rw [(Cv.cut_perm r _ p).length_eq, List.length_append, hrl]; rfl
      have hglt := (hown.lt g rfl)
      have HP := Lib.hid hP; have Hnext := Lib.hid hnext; have Hrl := Lib.hid hrl
      have hi0 : (0 : Int) ≤ (i : Int) := by omega
      have hi1 : (i : Int) < (C.length : Int) := by omega
      clear hP hnext hown hperm hsort hrow hrl hq
      go_wp2_with fail
      refine HP.out.mono ?_
      rintro e w3 ⟨g', cap', p, rfl, hcut, hown3, hg3, hgg⟩
      have hN3 := Hnext.out p hcut
      have Hown3 := Lib.hid hown3; have Hg3 := Lib.hid hg3; have HN3 := Lib.hid hN3
      rw [Hrl.out] at Hown3
      rw [Hrl.out]
      clear hown3 hg3 hN3 hcut
      go_wp2
      go_roundw
      case rel =>
        refine ⟨i + 1, by omega, by go_num, g', cap', rfl, by rcases hgg with h | h <;> omega, Nat.le_trans hsz Hg3.out.size, Lib.hid (Below.grown hb.out Hg3.out hb.out.size (fun k hk => by cases hk; exact hglt.1)), Lib.hid ?_, Lib.hid ⟨_, HN3.out.2.2, Hown3.out, HN3.out.1, HN3.out.2.1⟩⟩
        exact hgr.out.only (Only.of_grown Hg3.out) (by omega)
      case measure => simp [intOf]; omega
    · obtain rfl : i = C.length := by omega
      obtain ⟨r, hrl, hown, hperm, hsort⟩ := hrow.out
      rw [List.take_of_length_le (Nat.le_refl _)] at hperm
      have hs := Cv.sort_eq hperm hsort
      have hg := own_gives hown hrl hb.out
      rw [← hs] at hg
      have Hg := Lib.hid hg
      clear hs hg hown hperm hsort hrow hrl
      go_wp2
      go_ret
      exact Hg.out
end Go.Proofs.YtpebgompfgkljaaGreat
namespace Go.Proofs.YtpebgompfgkljaaGreat
open Go.RowKit Go.Sort

/-- The library's sort of a row of the call's own. -/
theorem lib_Sort (N g cap : Nat) (l : List Int) (w : World) (hown : w.ownsRow N 3 1 (.slice (some ⟨g, 0, none⟩) l.length cap) l.length (intCells l)) (hl : l.length ≤ 1000000) :
    Calls Tryz.prog 64 #[.slice (some ⟨g, 0, none⟩) l.length cap] w fun e w' => e = .returned (.tuple #[]) ∧ w'.ownsRow N 3 1 (.slice (some ⟨g, 0, none⟩) l.length cap) l.length (intCells l.mergeSort) ∧ w.grownBy w' (some g) := by
  rcases hown.2 with ⟨e, _⟩ | ⟨g', cap', cur, e, hbase, hb, h1, h2, h3, h4⟩
  · cases e
  · cases e
    refine (Tryz.slices_Sort_int g 0 cap l w (holds_of_blockI hb (by simpa [intCells] using h4)) (Array.getElem?_eq_some_iff.1 hb).1 (by omega)).mono ?_
    rintro e w' ⟨rfl, n, os, rfl⟩
    refine ⟨rfl, ?_, grownBy_sortedI _⟩
    have := ownsRow_sortedI (w := w) (base := N) (g := g) (cap := cap) (n := n) (e := 3) (os := os) (cur := cur) (ss := l) (ts := l.mergeSort) (by simp) hbase hb h1 h2 h3
    exact this
theorem lib_Sort_nil (a : Option Addr) (cap : Nat) (w : World) :
    Calls Tryz.prog 64 #[.slice a 0 cap] w fun e w' => e = .returned (.tuple #[]) ∧ w' = w := Tryz.slices_Sort_int_none a cap w
set_option maxRecDepth 10000 in
set_option maxHeartbeats 2000000 in
theorem impl_LiftLengths (a aw : Option Addr) (c cw : Nat) (L : List (List Int)) (l : List Int) (w : World) (ha : GridAt w a L) (hL : ∀ p ∈ L, p.length ≤ 1048576) (hn : L.length ≤ 1048576) (haw : RowAt w aw (intCells l)) (hl : l.length ≤ 1048576) :
    Calls Tryz.prog 11 #[.slice a L.length c, .slice aw l.length cw] w fun e w' => Gives w (Cv.lifts L l) e w' := by
  obtain ⟨i0, hi0, hz0, hz1, hz2⟩ := info_int_parts
  have Hi0 := Lib.hid hi0; have Hz0 := Lib.hid hz0; have Hz1 := Lib.hid hz1; have Hz2 := Lib.hid hz2
  have hA := impl_ActWord a aw c cw L l w ha hL hn haw hl
  have hl5 := Cv.actW_len5 L l
  have hC := fun ai am ci cm W (h1 : RowAt W ai (intCells (Cv.actW L l))) (h2 : RowAt W am (intCells (Cls.row id (Cv.actW L l).length))) => impl_sheetCycles ai am ci cm (Cv.actW L l).length (List.range (Cv.actW L l).length) (Mp.at_ (Cv.actW L l)) W (by rw [Mp.at_row (Cv.actW_isP L l)]; exact h1) h2 (fun m hm => List.mem_range.1 hm) (fun d hd => Mp.at_lt (Cv.actW_isP L l) hd) (by omega) (by simp; omega)
  have hce : Mp.natRows (Cv.cycIn (Mp.at_ (Cv.actW L l)) (Cv.actW L l).length (List.range (Cv.actW L l).length)).2 = Mp.cycles (Cv.actW L l) := rfl
  rw [hce, List.length_range] at hC
  rw [Cv.lifts_eq]
  have hfew := Cv.cycles_few L l
  generalize Mp.cycles (Cv.actW L l) = C at *
  generalize Cv.actW L l = A at *
  obtain ⟨M, hM⟩ : ∃ M, (C.map fun r => (r.length : Int)) = M := ⟨_, rfl⟩
  rw [hM]
  have HA := Lib.hid hA; have HC := Lib.hid hC; have HM := Lib.hid hM
  clear hA hC ha haw hL hi0 hz0 hz1 hz2 hce hM
  go_enter Tryz.func11, Tryz.ntmps11
  go_wp2_with fail
  refine HA.out.mono ?_
  rintro e w1 ⟨ra, rc, rfl, _, _, hf1, hb1⟩
  have Hf1 := Lib.hid hf1.row; have Hb1 := Lib.hid hb1
  clear hf1 hb1
  go_wp2_with fail
  refine (impl_unmovedSheets A.length w1 (by omega)).mono ?_
  rintro e w2 ⟨rfl, hlab, hb2⟩
  have Hf2 := Lib.hid (Hf1.out.below hb2); have Hu2 := Lib.hid hlab.row; have Hb2 := Lib.hid (Hb1.out.trans (hb2.mono Hb1.out.size))
  clear hlab hb2
  go_wp2_with fail
  refine (HC.out ra _ rc _ w2 Hf2.out Hu2.out).mono ?_
  rintro e w3 ⟨ca, cc, rfl, _, _, hg3, hb3⟩
  have Hb3 := Lib.hid (Hb2.out.trans (hb3.mono Hb2.out.size)); have Hg3 := Lib.hid hg3.grid
  clear hg3 hb3
  go_wp2
  go_loopw [6, 8, 18] (fun ov _ iv wr => ∃ i : Nat, i ≤ C.length ∧ iv = .int .i64 i ∧ Hid (Below w3.heap.size w3 wr) ∧ Hid (wr.ownsRow w3.heap.size 3 1 ov i (intCells ((C.take i).map fun r => (r.length : Int))))) (fun _ _ iv _ => C.length - (intOf iv).toNat)
  case atStart => exact ⟨0, by omega, rfl, Lib.hid (Below.refl _ _), Lib.hid (World.ownsRow_nil _ _ _ _)⟩
  case round =>
    obtain ⟨i, hi, rfl, hb, hown⟩ := hrel
    by_cases hlt : i < C.length
    · obtain ⟨q, hq⟩ := get_some hlt
      obtain ⟨b, o, ai, ci, rfl, hbw, hcell, _⟩ := (Hg3.out.below hb.out).get hq
      have hst : intCells ((C.take i).map fun r => (r.length : Int)) ++ [.int .i64 (q.length : Int)] = intCells ((C.take (i + 1)).map fun r => (r.length : Int)) := by
        obtain ⟨hl2, rfl⟩ := List.getElem?_eq_some_iff.1 hq
        rw [List.take_succ_eq_append_getElem hl2, List.map_append, List.map_cons, List.map_nil, ← intCells_snoc]
      have Hst := Lib.hid hst
      obtain ⟨av, cv, rfl⟩ := own_len hown.out
      have hm1 : i + 1 ≤ maxLen := by unfold maxLen; omega
      have hm2 : (i + 1) * 8 ≤ 140737488355328 := by omega
      have hN := hb.out.size
      have hi0 : (0 : Int) ≤ (i : Int) := by omega
      have hi1 : (i : Int) < (C.length : Int) := by omega
      clear hst hq
      generalize intCells ((C.take i).map fun r => (r.length : Int)) = X at *
      go_wp2_with (at_builtin; refine append_one rfl (.tmp 22) (.tmp 25) 30 rfl w3.heap.size 3 i0 _ 8 Tryz.underlying30 Hi0.out Hz0.out Hz1.out Hz2.out (by rfl) _ _ _ rfl hown.out (by rfl) _ rfl hm1 hm2 hN ?_; intro v1 w1 hown1 hg1 _)
      go_roundw
      case rel => exact ⟨i + 1, by omega, by go_num, Lib.hid (Below.grown (hb.out.alloc hN _) hg1 (by simp; omega) (fun k hk => (hown.out.lt k hk).1)), Lib.hid (by rw [← Hst.out]; exact hown1)⟩
      case measure => simp [intOf]; omega
    · obtain rfl : i = C.length := by omega
      rw [List.take_of_length_le (Nat.le_refl _)] at hown
      rw [HM.out] at hown
      have hml : M.length = C.length := by rw [← HM.out]; exact List.length_map _
      have hbw := Hb3.out.trans (hb.out.mono Hb3.out.size)
      by_cases h0 : C.length = 0
      · obtain ⟨av, cv, rfl⟩ := own_len hown.out
        have hM : M = [] := List.eq_nil_of_length_eq_zero (by omega)
        have hg := own_gives (own_mono hown.out Hb3.out.size) hml hbw
        rw [h0] at hg
        rw [show M = M.mergeSort from by rw [hM]; simp] at hg
        have Hg := Lib.hid hg
        clear hM hml hbw hg
        rw [h0]
        go_wp2_with fail
        refine (lib_Sort_nil av cv wr).mono ?_
        rintro e w5 ⟨rfl, hw5⟩
        rw [hw5]; clear hw5 w5
        go_wp2
        go_ret
        exact Hg.out
      · obtain ⟨g, cap, rfl, hcap, hcm⟩ := own_form hown.out (by omega)
        have hS := lib_Sort w3.heap.size g cap M wr (by rw [hml]; exact hown.out) (by omega)
        rw [hml] at hS
        have hgN := (hown.out.lt g rfl).1
        have HS := Lib.hid hS; have Hml := Lib.hid hml; have Hbw := Lib.hid hbw
        have hw3 := Hb3.out.size
        clear hS hml hbw h0
        go_wp2_with fail
        refine HS.out.mono ?_
        rintro e w5 ⟨rfl, hown5, hg5⟩
        have hb5 := Below.grown Hbw.out hg5 Hbw.out.size (fun k hk => by cases hk; omega)
        have hg := own_gives (own_mono hown5 hw3) (by rw [List.length_mergeSort]; exact Hml.out) hb5
        have Hg := Lib.hid hg
        clear hg hown5 hg5 hb5
        go_wp2
        go_ret
        exact Hg.out
end Go.Proofs.YtpebgompfgkljaaGreat
