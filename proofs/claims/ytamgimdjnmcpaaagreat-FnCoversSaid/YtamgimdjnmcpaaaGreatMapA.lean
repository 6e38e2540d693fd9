/-
  Marks of numbers that were seen; the walks of isPermutation and IsMap, the program's and the model's; the other dart of an edge.
-/
import Derived.Test.YtamgimdjnmcpaaaGreatBase
import Derived.Test.YtamgimdjnmcpaaaGreatSlice
import Derived.Test.YtamgimdjnmcpaaaGreatInts
import Derived.Test.YtamgimdjnmcpaaaGreatGrid
import Derived.Test.YtamgimdjnmcpaaaGreatOwn
import Derived.Test.YtamgimdjnmcpaaaGreatWord
import Derived.Test.YtamgimdjnmcpaaaGreatIsWord
import Derived.Test.YtamgimdjnmcpaaaGreatClass
import Derived.Test.YtamgimdjnmcpaaaGreatLab
import Derived.Test.YtamgimdjnmcpaaaGreatMap
import Derived.Deep.QuietTactic
import Derived.BigQuiet
namespace Go.Proofs.YtamgimdjnmcpaaaGreat
open Go.RowKit

/-- The block g tells of the numbers below n whether they were seen. -/
def Flg (w : World) (g : Nat) (s : Nat → Bool) (n : Nat) : Prop := ∃ all, Blk w g 4 all ∧ ∀ k, k < n → all[k]? = some (.bool (s k))
section
variable {w w' : World} {g n : Nat} {s : Nat → Bool}
theorem Flg.lt (h : Flg w g s n) : g < w.heap.size := by obtain ⟨_, h, _⟩ := h; exact h.lt
theorem Flg.cell (h : Flg w g s n) {k : Nat} (hk : k < n) : w.cell? ⟨g, k, none⟩ = some (.bool (s k)) := by
  obtain ⟨all, h, hc⟩ := h
  rw [h.cell]; exact hc k hk
theorem Flg.frozen (h : Flg w g s n) (k : Nat) : w.frozen? ⟨g, k, none⟩ = false := by obtain ⟨_, h, _⟩ := h; exact h.frozen k
theorem Flg.put (h : Flg w g s n) {i : Nat} (b : Bool) (hi : i < n) : Flg (w.setCell ⟨g, i, none⟩ (.bool b)) g (fun k => if k = i then b else s k) n := by
  obtain ⟨all, h, hc⟩ := h
  refine ⟨_, h.put i _, fun k hk => ?_⟩
  rw [Array.getElem?_setIfInBounds]
  by_cases e : i = k
  · subst e
    have := (Array.getElem?_eq_some_iff.1 (hc i hi)).1
    simp [this]
  · have e' : ¬ k = i := fun h => e h.symm
    simp only [e, e', if_false]; exact hc k hk
theorem Flg.congr (h : Flg w g s n) {s' : Nat → Bool} (he : ∀ k, k < n → s k = s' k) : Flg w g s' n := by
  obtain ⟨all, h, hc⟩ := h
  exact ⟨all, h, fun k hk => by rw [hc k hk, he k hk]⟩
theorem Flg.below {B : Nat} (h : Flg w g s n) (hb : Below B w w') (hg : g < B) : Flg w' g s n := by
  obtain ⟨all, h, hc⟩ := h
  exact ⟨all, h.below hb hg, hc⟩
theorem Flg.grown {row : Option Nat} (h : Flg w g s n) (hb : w.grownBy w' row) (hg : some g ≠ row) : Flg w' g s n := by
  obtain ⟨all, h, hc⟩ := h
  exact ⟨all, h.grown hb hg, hc⟩
theorem Flg.alloc (h : Flg w g s n) (o : Obj) : Flg (w.alloc o) g s n := by
  obtain ⟨all, h, hc⟩ := h
  exact ⟨all, h.alloc o, hc⟩
theorem Flg.drewN (h : Flg w g s n) (m : Nat) : Flg (w.drewN m) g s n := h
end
theorem info_bool : (Tryz.prog.info? 4).map (fun i => (i.zero, i.size, i.bytes)) = some (some (.bool false), 1, 1) := by kernel_rfl
def unseen (n : Nat) : Array Value := (List.replicate n (Value.bool false)).toArray
theorem mk_unseen (n : Nat) (h1 : n ≤ 1048576) (w : World) : (Instr.makeSlice 85 (.int .i64 (n : Int)) (.int .i64 (n : Int))).run Tryz.prog w = .ok (.slice (some ⟨w.heap.size, 0, none⟩) n n) (w.alloc (.cells (unseen n) 4)) := by
  obtain ⟨i0, hi, hz0, hz1, hz2⟩ := info_parts info_bool
  have h := run_make_rowN (P := Tryz.prog) 85 4 i0 _ Tryz.underlying85 hi hz0 .i64 .i64 n n (Nat.le_refl _) (by rw [hz2]; omega) (by omega) w
  have e : madeCells (Value.bool false).cells (n * i0.size) = unseen n := by
    rw [hz1, Nat.mul_one]
    show madeCells #[Value.bool false] n = _
    rw [made_one]; rfl
  rw [e] at h
  exact h
theorem Flg.start (w : World) (n : Nat) : Flg (w.alloc (.cells (unseen n) 4)) w.heap.size (fun _ => false) n :=
  ⟨_, Blk.new w 4 _, fun k hk => by simp [unseen, hk]⟩

namespace Mp
/-- The numbers that were seen among the first i. -/
def had (l : List Int) (i : Nat) : Nat → Bool := fun k => decide (((k : Nat) : Int) ∈ l.take i)
theorem had_zero (l : List Int) (k : Nat) : had l 0 k = false := by simp [had]
theorem had_step {l : List Int} {i k : Nat} (h : l[i]? = some ((k : Nat) : Int)) (j : Nat) : (if j = k then true else had l i j) = had l (i + 1) j := by
  unfold had
  by_cases e : j = k
  · subst e
    rw [if_pos rfl]
    exact (decide_eq_true ((take_mem h).2 (Or.inr rfl))).symm
  · rw [if_neg e]
    refine decide_eq_decide.2 ?_
    rw [take_mem h]
    constructor
    · exact Or.inl
    · rintro (h1 | h1)
      · exact h1
      · exact absurd (by omega) e
theorem isP_iff {l : List Int} : To l l.length ↔ IsP l := by
  unfold To; rw [List.take_of_length_le (Nat.le_refl _)]; rfl
theorem isM_short {l : List Int} (h : ¬ (2 ≤ l.length ∧ l.length ≤ 24 ∧ l.length % 2 = 0)) : ¬ IsM l := fun hm => h ⟨hm.1, hm.2.1, hm.2.2.1⟩
theorem isM_perm {l : List Int} (h : 2 ≤ l.length ∧ l.length ≤ 24 ∧ l.length % 2 = 0) : decide (IsM l) = decide (IsP l) := decide_eq_decide.2 ⟨fun hm => hm.2.2.2, fun hp => ⟨h.1, h.2.1, h.2.2, hp⟩⟩
end Mp

set_option maxRecDepth 10000 in
set_option maxHeartbeats 1000000 in
theorem spec_l6Perm (a : Option Addr) (c : Nat) (l : List Int) (w : World) (ha : RowAt w a (intCells l)) (hl : l.length ≤ 1048576) :
    Calls Tryz.prog 93 #[.slice a l.length c] w fun e w' => e = .returned (.bool (decide (Mp.IsP l))) ∧ Below w.heap.size w w' := by
  have hmk := mk_unseen l.length hl
  have hst := Flg.start w l.length
  have hb0 := (Below.refl w.heap.size w).alloc (Nat.le_refl _) (.cells (unseen l.length) 4)
  obtain ⟨V, hV⟩ : ∃ V, decide (Mp.IsP l) = V := ⟨_, rfl⟩
  rw [hV]
  have HV := Lib.hid hV
  generalize hN : w.heap.size = N at *
  have HN := Lib.hid hN
  have Hst := Lib.hid hst; have Hb0 := Lib.hid hb0; have Ha := Lib.hid ha
  clear hst hb0 ha hV
  go_enter Tryz.func93, Tryz.ntmps93
  go_wp2
  go_loopw [2, 4] (fun rv iv wr => rv = .bool false ∧ ∃ i : Nat, i ≤ l.length ∧ iv = .int .i64 i ∧ Hid (Mp.To l i) ∧ Hid (Flg wr N (Mp.had l i) l.length) ∧ Hid (Below N w wr)) (fun _ iv _ => l.length - (intOf iv).toNat)
  case atStart => exact ⟨rfl, 0, by omega, rfl, Lib.hid (Mp.To.zero l), Lib.hid (Hst.out.congr fun k _ => (Mp.had_zero l k).symm), Hb0⟩
  case round =>
    obtain ⟨rfl, i, hi, rfl, hto, hf, hb⟩ := hrel
    by_cases hlt : i < l.length
    · obtain ⟨x, hx⟩ := get_some hlt
      obtain ⟨b, o, rfl, hbw, hcell⟩ := intCells_get? (Ha.out.below (by rw [HN.out]; exact hb.out)) hx
      have hwr : IntKind.i64.wrap ((l.length : Int) - 1) = (l.length : Int) - 1 := wrap_small (by omega) (by omega)
      have hc := fun W => spec_l1In x 0 ((l.length : Int) - 1) W
      by_cases h0 : 0 ≤ x ∧ x ≤ (l.length : Int) - 1
      · rw [decide_eq_true h0] at hc
        obtain ⟨k, rfl⟩ : ∃ k : Nat, x = ((k : Nat) : Int) := ⟨x.toNat, by omega⟩
        have hk : k < l.length := by omega
        have hseen := hf.out.cell hk
        have hfz := hf.out.frozen k
        by_cases hm : ((k : Nat) : Int) ∈ l.take i
        · rw [show Mp.had l i k = true from decide_eq_true hm] at hseen
          have hno : V = false := by rw [← HV.out]; exact decide_eq_false (Mp.isP_twice hx hm)
          have Hno := Lib.hid hno; have Hc := Lib.hid hc; have Hx := Lib.hid hx
          clear hno hc hm hx h0
          go_wp2_with fail
          refine (Hc.out _).mono ?_
          rintro e w1 ⟨rfl, rfl⟩
          go_wp2
          go_ret
          exact ⟨by rw [Hno.out]; rfl, hb.out⟩
        · rw [show Mp.had l i k = false from decide_eq_false hm] at hseen
          have Hc := Lib.hid hc
          have Hto := Lib.hid (hto.out.step hx ⟨h0.1, by omega⟩ hm)
          have Hput := Lib.hid (hf.out.put true hk)
          have Hstep := Lib.hid (Mp.had_step hx)
          have Hb := Lib.hid (hb.out.setCell (p := ⟨N, k, none⟩) (Nat.le_refl _) (.bool true))
          have Hx := Lib.hid hx
          clear hc hm hx h0
          go_wp2_with fail
          refine (Hc.out _).mono ?_
          rintro e w1 ⟨rfl, rfl⟩
          go_wp2
          go_roundw
          case rel => exact ⟨rfl, i + 1, by omega, by go_num, Hto, Lib.hid (Hput.out.congr fun j _ => Hstep.out j), Hb⟩
          case measure => simp [intOf]; omega
      · rw [decide_eq_false h0] at hc
        have hno : V = false := by rw [← HV.out]; exact decide_eq_false (Mp.isP_far hx (fun h => h0 ⟨h.1, by omega⟩))
        have Hno := Lib.hid hno; have Hc := Lib.hid hc
        clear hno hc hx h0
        go_wp2_with fail
        refine (Hc.out _).mono ?_
        rintro e w1 ⟨rfl, rfl⟩
        go_wp2
        go_ret
        exact ⟨by rw [Hno.out]; rfl, hb.out⟩
    · obtain rfl : i = l.length := by omega
      have hy : V = true := by rw [← HV.out]; exact decide_eq_true (Mp.isP_iff.1 hto.out)
      have Hy := Lib.hid hy; clear hy
      go_wp2
      go_ret
      exact ⟨by rw [Hy.out]; rfl, hb.out⟩

set_option maxRecDepth 10000 in
set_option maxHeartbeats 1000000 in
theorem impl_isPermutation (a : Option Addr) (c : Nat) (l : List Int) (w : World) (ha : RowAt w a (intCells l)) (hl : l.length ≤ 1048576) :
    Calls Tryz.prog 81 #[.slice a l.length c] w fun e w' => e = .returned (.bool (decide (Mp.IsP l))) ∧ Below w.heap.size w w' := by
  have hmk := mk_unseen l.length hl
  have hst := Flg.start w l.length
  have hb0 := (Below.refl w.heap.size w).alloc (Nat.le_refl _) (.cells (unseen l.length) 4)
  obtain ⟨V, hV⟩ : ∃ V, decide (Mp.IsP l) = V := ⟨_, rfl⟩
  rw [hV]
  have HV := Lib.hid hV
  generalize hN : w.heap.size = N at *
  have HN := Lib.hid hN
  have Hst := Lib.hid hst; have Hb0 := Lib.hid hb0; have Ha := Lib.hid ha
  clear hst hb0 ha hV
  go_enter Tryz.func81, Tryz.ntmps81
  go_wp2
  go_loopw [2, 5, 11] (fun rv _ iv wr => rv = .bool false ∧ ∃ i : Nat, i ≤ l.length ∧ iv = .int .i64 i ∧ Hid (Mp.To l i) ∧ Hid (Flg wr N (Mp.had l i) l.length) ∧ Hid (Below N w wr)) (fun _ _ iv _ => l.length - (intOf iv).toNat)
  case atStart => exact ⟨rfl, 0, by omega, rfl, Lib.hid (Mp.To.zero l), Lib.hid (Hst.out.congr fun k _ => (Mp.had_zero l k).symm), Hb0⟩
  case round =>
    obtain ⟨rfl, i, hi, rfl, hto, hf, hb⟩ := hrel
    by_cases hlt : i < l.length
    · obtain ⟨x, hx⟩ := get_some hlt
      obtain ⟨b, o, rfl, hbw, hcell⟩ := intCells_get? (Ha.out.below (by rw [HN.out]; exact hb.out)) hx
      by_cases h1 : x < 0
      · have hno : V = false := by rw [← HV.out]; exact decide_eq_false (Mp.isP_far hx (by omega))
        have Hno := Lib.hid hno; have Hx := Lib.hid hx
        clear hno hx
        go_wp2
        go_ret
        exact ⟨by rw [Hno.out]; rfl, hb.out⟩
      · by_cases h2 : x < (l.length : Int)
        · obtain ⟨k, rfl⟩ : ∃ k : Nat, x = ((k : Nat) : Int) := ⟨x.toNat, by omega⟩
          have hk : k < l.length := by omega
          have hseen := hf.out.cell hk
          have hfz := hf.out.frozen k
          by_cases hm : ((k : Nat) : Int) ∈ l.take i
          · rw [show Mp.had l i k = true from decide_eq_true hm] at hseen
            have hno : V = false := by rw [← HV.out]; exact decide_eq_false (Mp.isP_twice hx hm)
            have Hno := Lib.hid hno; have Hx := Lib.hid hx
            clear hno hm hx
            go_wp2
            go_ret
            exact ⟨by rw [Hno.out]; rfl, hb.out⟩
          · rw [show Mp.had l i k = false from decide_eq_false hm] at hseen
            have Hto := Lib.hid (hto.out.step hx ⟨by omega, h2⟩ hm)
            have Hput := Lib.hid (hf.out.put true hk)
            have Hstep := Lib.hid (Mp.had_step hx)
            have Hb := Lib.hid (hb.out.setCell (p := ⟨N, k, none⟩) (Nat.le_refl _) (.bool true))
            have Hx := Lib.hid hx
            clear hm hx
            go_wp2
            go_roundw
            case rel => exact ⟨rfl, i + 1, by omega, by go_num, Hto, Lib.hid (Hput.out.congr fun j _ => Hstep.out j), Hb⟩
            case measure => simp [intOf]; omega
        · have hno : V = false := by rw [← HV.out]; exact decide_eq_false (Mp.isP_far hx (by omega))
          have Hno := Lib.hid hno; have Hx := Lib.hid hx
          clear hno hx
          go_wp2
          go_ret
          exact ⟨by rw [Hno.out]; rfl, hb.out⟩
    · obtain rfl : i = l.length := by omega
      have hy : V = true := by rw [← HV.out]; exact decide_eq_true (Mp.isP_iff.1 hto.out)
      have Hy := Lib.hid hy; clear hy
      go_wp2
      go_ret
      exact ⟨by rw [Hy.out]; rfl, hb.out⟩



theorem xor_mate : ∀ d : Nat, d < 64 → bits .xor .i64 ((d : Nat) : Int) 1 = ((Mp.mate d : Nat) : Int) := by decide +kernel
theorem rem_mate {d : Nat} (h : d < 1000) : ((d : Nat) : Int) + 1 - 2 * ((d : Nat) : Int).tmod 2 = ((Mp.mate d : Nat) : Int) := by
  rw [show ((d : Nat) : Int).tmod 2 = ((d % 2 : Nat) : Int) from rfl]
  unfold Mp.mate; split <;> omega
end Go.Proofs.YtamgimdjnmcpaaaGreat
