/-
  shard's joined and Text.
-/
import Derived.Test.YtceeafmahoelfaaDoorHTxt
namespace Go.Proofs.YtceeafmahoelfaaDoor
open Go.ChangeShapes Go.WideShapes Go.ChangeAt Go.RowKit

set_option maxRecDepth 100000 in
set_option maxRecDepth 100000 in
set_option maxHeartbeats 1000000 in
theorem joined_any (A n : Nat) (f : Nat → ByteArray) (w : World) (hT : Tab w) (hn : n ≤ 256) (hc : ∀ i, i < n → w.cell? ⟨A, 3 + i, none⟩ = some (.string (f i))) (hf : ∀ i, (f i).size ≤ 256) : Calls Tryd.prog 33 #[.slice (some ⟨A, 3, none⟩) n 256] w fun e w' => e = .returned (.int .i64 (Sh.jn f n)) ∧ w' = w := by
  have HX : Hid (∀ i, i < n → w.cell? ⟨A, 3 + i, none⟩ = some (.string (f i))) := hc
  have HF : Hid (∀ i, (f i).size ≤ 256) := hf
  have HT : Hid (Tab w) := hT
  clear hc hf hT
  go_enter Tryd.func33, Tryd.ntmps33
  go_wp2
  go_loop [3, 8] (fun s u => ∃ k : Nat, k ≤ n ∧ u = .int .i64 k ∧ s = .int .i64 (Sh.jn f k)) (fun _ u => n - (intOf u).toNat)
  case atStart => exact ⟨0, Nat.zero_le _, rfl, by rw [show Sh.jn f 0 = 0 from by simp [Sh.jn, Sh.cat, Pl.crc, Pl.sums]]; rfl⟩
  case round =>
    obtain ⟨k, hk, rfl, rfl⟩ := hrel
    by_cases hlt : k < n
    · have hltI : (k : Int) < (n : Int) := by omega
      have cf := HX.out k hlt
      have hs := HF.out k
      have HJ : Hid (Pl.joinOf (Sh.jn f k) (Sh.sum (f k)) (f k).size = Sh.jn f (k + 1)) := Sh.jn_succ f k
      have hjl := Sh.jn_lt f k
      have hsl := Sh.sum_lt (f k)
      generalize f k = y at cf hs HJ hsl
      go_wp2_with fail
      refine (sum_any y _ (by unfold maxLen; omega) HT.out).mono ?_
      rintro e w1 ⟨rfl, rfl⟩
      rw [show Pl.crc y.data.toList = Sh.sum y from rfl]
      generalize Sh.sum y = sy at *
      obtain ⟨jk, hjk⟩ : ∃ jk, Sh.jn f k = jk := ⟨_, rfl⟩
      rw [hjk] at HJ hjl ⊢
      clear hjk
      go_wp2_with fail
      refine (join_good jk sy y.size _ hjl hsl (by omega)).mono ?_
      rintro e w1 ⟨rfl, rfl⟩
      rw [HJ.out]
      go_wp2
      go_round
      case rel => exact ⟨k + 1, by omega, by go_num, rfl⟩
      case measure => simp [intOf]; omega
    · obtain rfl : n = k := by omega
      go_wp2
      go_ret
      exact ⟨rfl, rfl⟩
theorem Sh.join_cat (l : List (List UInt8)) : Lib.join l [] = l.flatten := by
  induction l with
  | nil => rfl
  | cons a l ih =>
    cases l with
    | nil => simp [Lib.join]
    | cons b l => rw [List.flatten_cons, ← ih]; simp [Lib.join]
theorem join_any (A n : Nat) (f : Nat → ByteArray) (w : World) (hA : A < w.heap.size) (hn : n ≤ 256) (hc : ∀ i, i < n → w.cell? ⟨A, 3 + i, none⟩ = some (.string (f i))) (hf : ∀ i, (f i).size ≤ 256) : Calls Tryd.prog 34 #[.slice (some ⟨A, 3, none⟩) n 256, .string ⟨#[]⟩] w fun e w' => e = .returned (.string ⟨(Sh.cat f n).toArray⟩) ∧ Below w.heap.size w w' := by
  have hl : ((List.range n).map f).length = n := by simp
  have e : Lib.join (((List.range n).map f).map (·.data.toList)) (⟨#[]⟩ : ByteArray).data.toList = Sh.cat f n := by
    show Lib.join _ [] = _
    rw [Sh.join_cat, List.map_map]
    rfl
  have hlen : ∀ k, (Sh.cat f k).length ≤ k * 256 := by
    intro k
    induction k with
    | zero => simp [Sh.cat]
    | succ k ih =>
      rw [Sh.cat_succ, List.length_append]
      have := hf k
      have h2 : (f k).data.toList.length = (f k).size := by simp
      omega
  have hln := hlen n
  have h := Any.strings_Join Lay.joinL Lay.joinX A 3 256 ((List.range n).map f) ⟨#[]⟩ w (fun j x hj => by
    have hj' : j < n := by simpa using (List.getElem?_eq_some_iff.1 hj).1
    have : x = f j := by simpa [hj'] using hj.symm
    rw [this]
    exact hc j hj') hA (by omega) (by omega) (by rw [e]; omega)
  rw [e, hl] at h
  exact h
theorem Sh.txtE_gap {m : Sh.Mf} {f : Nat → ByteArray} (h : Sh.gap f (Sh.cnt m.size.toNat) = true) : Sh.txtE m f = 7 := by
  unfold Sh.txtE
  unfold Sh.gap at h
  rw [if_neg (by simpa using h)]
theorem Sh.txtE_full {m : Sh.Mf} {f : Nat → ByteArray} (h : Sh.gap f (Sh.cnt m.size.toNat) = false) : Sh.txtE m f = if (Sh.jn f (Sh.cnt m.size.toNat) : Int) = m.sum then 0 else 20 := by
  unfold Sh.txtE
  unfold Sh.gap at h
  rw [if_pos (by simpa using h)]
theorem text_nil (w : World) : Calls Tryd.prog 18 #[.pointer none] w fun e w' => e = .returned (.tuple #[.string ⟨#[]⟩, .int .i64 7]) ∧ w' = w := by
  go_enter Tryd.func18, Tryd.ntmps18
  go_wp2_with fail
  refine (pieces_nil _).mono ?_
  rintro e w1 ⟨rfl, rfl⟩
  go_wp2
  go_ret2
  exact ⟨rfl, rfl⟩
set_option maxRecDepth 100000 in
set_option maxRecDepth 100000 in
set_option maxHeartbeats 1000000 in
theorem text_any (A : Nat) (m : Sh.Mf) (f : Nat → ByteArray) (w : World) (hT : Tab w) (hA : AsmAt w A m f) (hm : Sh.okM m = true) (hf : ∀ i, (f i).size ≤ 256) : Calls Tryd.prog 18 #[.pointer (some ⟨A, 0, none⟩)] w fun e w' => e = .returned (.tuple #[.string (Sh.txt m f), .int .i64 (Sh.txtE m f)]) ∧ Below w.heap.size w w' := by
  have HA : Hid (AsmAt w A m f) := hA
  have HM : Hid (Sh.okM m = true) := hm
  have HF : Hid (∀ i, (f i).size ≤ 256) := hf
  have HT : Hid (Tab w) := hT
  obtain ⟨k0, hk0, hk1, hk2⟩ := Sh.okM_size hm
  have hcl : Sh.cnt m.size.toNat ≤ 256 := Sh.cnt_le (by omega)
  have hcp : 0 < Sh.cnt m.size.toNat := Sh.cnt_pos (by omega)
  have HG1 : Hid (Sh.gap f (Sh.cnt m.size.toNat) = true → Sh.txtE m f = 7) := Sh.txtE_gap
  have HG2 : Hid (Sh.gap f (Sh.cnt m.size.toNat) = false → Sh.txtE m f = if (Sh.jn f (Sh.cnt m.size.toNat) : Int) = m.sum then 0 else 20) := Sh.txtE_full
  have HX1 : Hid (Sh.txtE m f = 0 → Sh.txt m f = ⟨(Sh.cat f (Sh.cnt m.size.toNat)).toArray⟩) := fun h => by unfold Sh.txt; rw [if_pos h]
  have HX2 : Hid (Sh.txtE m f ≠ 0 → Sh.txt m f = ⟨#[]⟩) := fun h => by unfold Sh.txt; rw [if_neg h]
  clear hA hm hk0 hk1 hk2 hf hT
  go_enter Tryd.func18, Tryd.ntmps18
  go_wp2_with fail
  refine (pieces_any A m f _ HA.out HM.out).mono ?_
  rintro e w1 ⟨rfl, q, hq⟩
  have HB1 : Hid (Below w.heap.size w w1) := show Below w.heap.size w w1 by rw [hq]; exact Go.below_drewN (Below.refl _ _) q
  have HA1 : Hid (AsmAt w1 A m f) := show AsmAt w1 A m f by rw [hq]; exact HA.out
  have HT1 : Hid (Tab w1) := HT.out.up HB1.out
  have hlt1 := HA1.out.lt
  obtain ⟨c0, c1, c2⟩ := HA1.out.three
  clear hq HA HT
  obtain ⟨c, hcc⟩ : ∃ c, Sh.cnt m.size.toNat = c := ⟨_, rfl⟩
  rw [hcc] at hcl hcp HG1 HG2 HX1 ⊢
  clear hcc
  have hc0 : ((c : Int) == 0) = false := by simp; omega
  have HCC : Hid (∀ i, i < c → w1.cell? ⟨A, 3 + i, none⟩ = some (.string (f i))) := fun i hi => (HA1.out.cell (i := i) (by omega)).1
  go_wp2_with fail
  refine (contains_any A c f _ hcl HCC.out).mono ?_
  rintro e w2 ⟨rfl, rfl⟩
  cases hg : Sh.gap f c with
  | true =>
    have HE : Hid (Sh.txtE m f = 7) := HG1.out hg
    have HS : Hid (Sh.txt m f = ⟨#[]⟩) := HX2.out (by rw [HE.out]; decide)
    clear hg
    go_wp2
    go_ret2
    rw [HE.out, HS.out]
    exact ⟨rfl, HB1.out⟩
  | false =>
    have hE := HG2.out hg
    have HJ : Hid (∀ v : World, Tab v → AsmAt v A m f → Calls Tryd.prog 33 #[.slice (some ⟨A, 3, none⟩) c 256] v fun e w' => e = .returned (.int .i64 (Sh.jn f c)) ∧ w' = v) := fun v hv ha => joined_any A c f v hv hcl (fun i hi => (ha.cell (i := i) (by omega)).1) HF.out
    clear hg
    by_cases hj : (Sh.jn f c : Int) = m.sum
    · rw [if_pos hj] at hE
      have HE : Hid (Sh.txtE m f = 0) := hE
      have HS : Hid (Sh.txt m f = ⟨(Sh.cat f c).toArray⟩) := HX1.out hE
      have hj' : ((Sh.jn f c : Int) != m.sum) = false := by simpa using hj
      clear hE hj
      go_wp2
      go_quiet ((go_at_call 33; exact Calls.quiet_of_same (HJ.out _ HT1.out HA1.out)))
      go_wp2_with fail
      refine (join_any A c f (w2.drewN nq) hlt1 hcl HCC.out HF.out).mono ?_
      rintro e w3 ⟨rfl, hb3⟩
      have HB3 : Hid (Below w.heap.size w w3) := (Go.below_drewN HB1.out nq).trans (hb3.mono HB1.out.size)
      clear hb3
      generalize Sh.cat f c = z at *
      go_wp2
      go_ret2
      rw [HE.out, HS.out]
      exact ⟨rfl, HB3.out⟩
    · rw [if_neg hj] at hE
      have HE : Hid (Sh.txtE m f = 20) := hE
      have HS : Hid (Sh.txt m f = ⟨#[]⟩) := HX2.out (by rw [HE.out]; decide)
      have hj' : ((Sh.jn f c : Int) != m.sum) = true := by simpa using hj
      clear hE hj
      go_wp2
      go_quiet ((go_at_call 33; exact Calls.quiet_of_same (HJ.out _ HT1.out HA1.out)))
      go_wp2
      go_ret2
      rw [HE.out, HS.out]
      exact ⟨rfl, Go.below_drewN HB1.out _⟩
end Go.Proofs.YtceeafmahoelfaaDoor
