/-
  The walk of spec.l1Read and of what calls it: they read a decimal numeral as Num.rd does.
-/
import Derived.Test.YtehibigjdbpikaaGreatDoorBase
import Derived.Test.YtehibigjdbpikaaGreatDoorFmt
import Derived.Test.YtehibigjdbpikaaGreatDoorNum
import Derived.Lib.IndexBytes
namespace Go.Proofs.YtehibigjdbpikaaGreatDoor
open Go.RowKit

namespace Num
theorem take_snoc (s : ByteArray) (k : Nat) (h : k < s.size) : s.data.toList.take (k + 1) = s.data.toList.take k ++ [s[k]] := by
  rw [List.take_succ_eq_append_getElem (by simpa using h)]; rfl
theorem val_take {t : ByteArray} {i : Nat} (hd : (t.data.toList.take i).all digit = true) (hi : i ≤ t.size) (ht : t.size ≤ 12) : val 0 (t.data.toList.take i) < 1000000000000 := by
  have h := val_lt _ 0 0 hd (by decide)
  have hl : (t.data.toList.take i).length ≤ i := List.length_take_le _ _
  have hp : 10 ^ (0 + (t.data.toList.take i).length) ≤ 10 ^ 12 := Nat.pow_le_pow_right (by decide) (by omega)
  omega
theorem not_digit {c : UInt8} (h : ¬ digit c = true) : c.toNat < 48 ∨ 57 < c.toNat := by
  simp [digit] at h
  omega
theorem digit_bounds {c : UInt8} (h : digit c = true) : 48 ≤ c.toNat ∧ c.toNat ≤ 57 := by simpa [digit] using h
theorem take_step {t : ByteArray} {i : Nat} (h : i < t.size) (hd : (t.data.toList.take i).all digit = true) (hg : digit t[i] = true) :
    (t.data.toList.take (i + 1)).all digit = true ∧ (val 0 (t.data.toList.take (i + 1)) : Int) = 10 * (val 0 (t.data.toList.take i) : Int) + ((t[i].toNat : Int) - 48) := by
  rw [take_snoc t i h, List.all_append, hd, val_append, val_cons, val_nil]
  have := digit_bounds hg
  exact ⟨by simpa using hg, by omega⟩
theorem rd_len {k : Nat} {l t : List UInt8} (hr : rest l = t) (h : t.length < 1 ∨ k < t.length) : rd k l = (0, false) := by
  unfold rd; rw [hr, if_pos h]
theorem rd_bad {k : Nat} {l t : List UInt8} (hr : rest l = t) (h : ¬ (t.length < 1 ∨ k < t.length)) (hd : t.all digit = false) : rd k l = (0, false) := by
  unfold rd; rw [hr, if_neg h, if_pos hd]
theorem rd_good {k : Nat} {l t : List UInt8} (hr : rest l = t) (h : ¬ (t.length < 1 ∨ k < t.length)) (hd : t.all digit = true) : rd k l = if Lib.itoa (sgn l) = l then (sgn l, true) else (0, false) := by
  unfold rd; rw [hr, if_neg h, if_neg (by rw [hd]; decide)]
theorem head_of {s : ByteArray} (h : 0 < s.size) : s.data.toList.head? = some s[0] := by
  rw [List.head?_eq_getElem?, List.getElem?_eq_getElem (by simpa using h)]; rfl
theorem neg_facts {s : ByteArray} (h : 0 < s.size) (h45 : s[0].toNat = 45) : rest s.data.toList = (s.extract 1 s.size).data.toList ∧ sgn s.data.toList = -(val 0 (s.extract 1 s.size).data.toList : Int) := by
  have e : s[0] = 45 := UInt8.toNat_inj.1 h45
  have hb : below s.data.toList = true := by unfold below; rw [head_of h, e]; rfl
  have hr : rest s.data.toList = (s.extract 1 s.size).data.toList := by unfold rest; rw [if_pos hb, Lib.extract_to_end, List.drop_one]
  refine ⟨hr, ?_⟩
  unfold sgn
  rw [if_pos hb, hr]; omega
theorem pos_facts {s : ByteArray} (h : ¬ (0 < s.size ∧ ∃ h : 0 < s.size, s[0].toNat = 45)) : rest s.data.toList = s.data.toList ∧ sgn s.data.toList = (val 0 s.data.toList : Int) := by
  have hb : ¬ below s.data.toList = true := by
    unfold below
    intro hh
    by_cases h0 : 0 < s.size
    · rw [head_of h0] at hh
      simp only [Option.some_beq_some, beq_iff_eq] at hh
      exact h ⟨h0, h0, by rw [hh]; rfl⟩
    · have hn : s.data.toList = [] := List.eq_nil_of_length_eq_zero (by rw [Array.length_toList, ByteArray.size_data]; omega)
      rw [hn] at hh
      cases hh
  have hr : rest s.data.toList = s.data.toList := by unfold rest; rw [if_neg hb]
  refine ⟨hr, ?_⟩
  unfold sgn
  rw [if_neg hb, hr]
theorem bad_at {t : ByteArray} {i : Nat} (h : i < t.size) (hg : ¬ digit t[i] = true) : t.data.toList.all digit = false := by
  rw [List.all_eq_false]
  exact ⟨t[i], List.mem_iff_getElem.2 ⟨i, by simpa using h, rfl⟩, by simpa using hg⟩
end Num

set_option maxRecDepth 10000 in
set_option maxHeartbeats 400000 in
theorem spec_l1Read (s : ByteArray) (k : Nat) (hk : k ≤ 12) (w : World) (hs : s.size ≤ 1048576) :
    Calls Tryz.prog 132 #[.string s, .int .i64 k] w fun e w' => e = .returned (.tuple #[.int .i64 (Num.rd k s.data.toList).1, .bool (Num.rd k s.data.toList).2]) ∧ Below w.heap.size w w' := by
  by_cases hb : 0 < s.size ∧ ∃ h : 0 < s.size, s[0].toNat = 45
  · obtain ⟨h0, h0', h45⟩ := hb
    obtain ⟨hr, hsg⟩ := Num.neg_facts h0 h45
    have hts : (s.extract 1 s.size).size = s.size - 1 := by simp
    by_cases hl : s.size - 1 < 1 ∨ k < s.size - 1
    · have Hx := Lib.hid (Num.rd_len (k := k) hr (by simp only [Array.length_toList, ByteArray.size_data]; rw [hts]; exact hl))
      have Hr := Lib.hid hr; have Hsg := Lib.hid hsg; clear hr hsg
      go_enter Tryz.func132, Tryz.ntmps132
      go_wp2
      all_goals
        go_ret2
        rw [Hx.out]
        exact ⟨rfl, Below.refl _ _⟩
    · have hl1 : 1 ≤ s.size - 1 := by omega
      have hl2 : s.size - 1 ≤ k := by omega
      have hd1 : decide (((s.size - 1 : Nat) : Int) < 1) = false := by simp; omega
      have hd2 : decide (k < s.size - 1) = false := by simp; omega
      have Hgood := fun hd => Lib.hid (Num.rd_good (k := k) hr (by simp only [Array.length_toList, ByteArray.size_data]; rw [hts]; exact hl) hd)
      have Hbad := fun hd => Lib.hid (Num.rd_bad (k := k) hr (by simp only [Array.length_toList, ByteArray.size_data]; rw [hts]; exact hl) hd)
      have Hr := Lib.hid hr; have Hsg := Lib.hid hsg; clear hr hsg
      have HG := Lib.hid Hgood; have HB := Lib.hid Hbad; clear Hgood Hbad
      go_enter Tryz.func132, Tryz.ntmps132
      go_wp2
      generalize ht : s.extract 1 s.size = t at *
      have hts1 : t.size ≤ 12 := by omega
      have Hts := Lib.hid hts; clear hts
      have Ht := Lib.hid ht; clear ht
      go_loopw [4, 5, 8, 9] (fun rv ov nv iv wr => rv = .int .i64 0 ∧ ov = .bool false ∧ ∃ i : Nat, i ≤ t.size ∧ iv = .int .i64 i ∧ nv = .int .i64 (Num.val 0 (t.data.toList.take i)) ∧ (t.data.toList.take i).all Num.digit = true ∧ Below w.heap.size w wr) (fun _ _ _ iv _ => t.size - (intOf iv).toNat)
      case atStart => exact ⟨rfl, rfl, 0, by omega, rfl, rfl, rfl, Below.refl _ _⟩
      case round =>
        obtain ⟨rfl, rfl, i, hi, rfl, rfl, hd, hbl⟩ := hrel
        have hv := Num.val_take hd hi hts1
        by_cases hlt : i < t.size
        · by_cases hg : Num.digit t[i] = true
          · have hg1 := Num.digit_bounds hg
            have hsn := Num.take_step hlt hd hg
            have Hsn := Lib.hid hsn; clear hsn
            go_wp2
            go_roundw
            case rel => exact ⟨rfl, rfl, i + 1, by omega, by go_num, congrArg (Value.int .i64) Hsn.out.2.symm, Hsn.out.1, hbl⟩
            case measure => simp [intOf]; omega
          · have hg2 := Num.not_digit hg
            have Hx := HB.out (Num.bad_at hlt hg)
            go_wp2
            all_goals
              go_ret2
              rw [Hx.out]
              exact ⟨rfl, hbl⟩
        · obtain rfl : i = t.size := by omega
          have hvv : (t.data.toList.take t.size) = t.data.toList := List.take_of_length_le (by simp)
          rw [hvv] at hv hd
          have Hx := HG.out hd
          have hvn := congrArg (Num.val 0) hvv
          rw [← hvn] at hv
          have Hsg2 := Lib.hid (Hsg.out.trans (congrArg (fun n : Nat => -(n : Int)) hvn.symm))
          generalize Num.val 0 (t.data.toList.take t.size) = v at hvn hv Hsg2 ⊢
          clear hvn hvv
          go_wp2_with fail
          refine (spec_FormatInt _ _ (by omega) (by omega)).mono ?_
          rintro e w1 ⟨rfl, hb1⟩
          by_cases he : Lib.itoa (-(v : Int)) = s.data.toList
          · go_wp2
            go_ret2
            rw [Hx.out, Hsg2.out, if_pos he]
            exact ⟨rfl, hbl.trans (hb1.mono hbl.size)⟩
          · have hne : (Lib.itoa (-(v : Int)) == s.toList) = false := by rw [beq_eq_false_iff_ne, ByteArray.toList_eq]; exact he
            go_wp2
            go_ret2
            rw [Hx.out, Hsg2.out, if_neg he]
            exact ⟨rfl, hbl.trans (hb1.mono hbl.size)⟩
  · obtain ⟨hr, hsg⟩ := Num.pos_facts hb
    by_cases hl : s.size < 1 ∨ k < s.size
    · have Hx := Lib.hid (Num.rd_len (k := k) hr (by simp only [Array.length_toList, ByteArray.size_data]; exact hl))
      have Hr := Lib.hid hr; have Hsg := Lib.hid hsg; clear hr hsg
      have hbb : 0 < s.size → ∀ h : 0 < s.size, ((s[0].toNat : Int) == 45) = false := fun h h' => by
        rw [beq_eq_false_iff_ne]; intro e; exact hb ⟨h, h, by omega⟩
      by_cases h0 : 0 < s.size
      all_goals
        try have hbb1 := hbb h0 h0
        clear hbb hb
        go_enter Tryz.func132, Tryz.ntmps132
        go_wp2
        all_goals
          go_ret2
          rw [Hx.out]
          exact ⟨rfl, Below.refl _ _⟩
    · have hl1 : 1 ≤ s.size := by omega
      have hl2 : s.size ≤ k := by omega
      have hd1 : decide ((s.size : Int) < 1) = false := by simp; omega
      have hd2 : decide (k < s.size) = false := by simp; omega
      have h0 : 0 < s.size := by omega
      have h45 : ((s[0].toNat : Int) == 45) = false := by
        rw [beq_eq_false_iff_ne]; intro e; exact hb ⟨h0, h0, by omega⟩
      clear hb
      have Hgood := fun hd => Lib.hid (Num.rd_good (k := k) hr (by simp only [Array.length_toList, ByteArray.size_data]; exact hl) hd)
      have Hbad := fun hd => Lib.hid (Num.rd_bad (k := k) hr (by simp only [Array.length_toList, ByteArray.size_data]; exact hl) hd)
      have Hr := Lib.hid hr; have Hsg := Lib.hid hsg; clear hr hsg
      have HG := Lib.hid Hgood; have HB := Lib.hid Hbad; clear Hgood Hbad
      have hts1 : s.size ≤ 12 := by omega
      go_enter Tryz.func132, Tryz.ntmps132
      go_wp2
      go_loopw [4, 5, 8, 9] (fun rv ov nv iv wr => rv = .int .i64 0 ∧ ov = .bool false ∧ ∃ i : Nat, i ≤ s.size ∧ iv = .int .i64 i ∧ nv = .int .i64 (Num.val 0 (s.data.toList.take i)) ∧ (s.data.toList.take i).all Num.digit = true ∧ Below w.heap.size w wr) (fun _ _ _ iv _ => s.size - (intOf iv).toNat)
      case atStart => exact ⟨rfl, rfl, 0, by omega, rfl, rfl, rfl, Below.refl _ _⟩
      case round =>
        obtain ⟨rfl, rfl, i, hi, rfl, rfl, hd, hbl⟩ := hrel
        have hv := Num.val_take hd hi hts1
        by_cases hlt : i < s.size
        · by_cases hg : Num.digit s[i] = true
          · have hg1 := Num.digit_bounds hg
            have hsn := Num.take_step hlt hd hg
            have Hsn := Lib.hid hsn; clear hsn
            go_wp2
            go_roundw
            case rel => exact ⟨rfl, rfl, i + 1, by omega, by go_num, congrArg (Value.int .i64) Hsn.out.2.symm, Hsn.out.1, hbl⟩
            case measure => simp [intOf]; omega
          · have hg2 := Num.not_digit hg
            have Hx := HB.out (Num.bad_at hlt hg)
            go_wp2
            all_goals
              go_ret2
              rw [Hx.out]
              exact ⟨rfl, hbl⟩
        · obtain rfl : i = s.size := by omega
          have hvv : (s.data.toList.take s.size) = s.data.toList := List.take_of_length_le (by simp)
          rw [hvv] at hv hd
          have Hx := HG.out hd
          have hvn := congrArg (Num.val 0) hvv
          rw [← hvn] at hv
          have Hsg2 := Lib.hid (Hsg.out.trans (congrArg (fun n : Nat => (n : Int)) hvn.symm))
          generalize Num.val 0 (s.data.toList.take s.size) = v at hvn hv Hsg2 ⊢
          clear hvn hvv
          go_wp2_with fail
          refine (spec_FormatInt _ _ (by omega) (by omega)).mono ?_
          rintro e w1 ⟨rfl, hb1⟩
          by_cases he : Lib.itoa (v : Int) = s.data.toList
          · go_wp2
            go_ret2
            rw [Hx.out, Hsg2.out, if_pos he]
            exact ⟨rfl, hbl.trans (hb1.mono hbl.size)⟩
          · have hne : (Lib.itoa (v : Int) == s.toList) = false := by rw [beq_eq_false_iff_ne, ByteArray.toList_eq]; exact he
            go_wp2
            go_ret2
            rw [Hx.out, Hsg2.out, if_neg he]
            exact ⟨rfl, hbl.trans (hb1.mono hbl.size)⟩
end Go.Proofs.YtehibigjdbpikaaGreatDoor
