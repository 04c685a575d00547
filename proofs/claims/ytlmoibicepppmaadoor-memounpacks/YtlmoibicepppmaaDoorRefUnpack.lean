/-
  What the document's Unpack answers, in whatever world, of a string that is not too long: by its walk.
-/
import Derived.Test.YtlmoibicepppmaaDoorNum
import Derived.Test.YtlmoibicepppmaaDoorFields
import Derived.Test.YtlmoibicepppmaaDoorPlainU
import Derived.Test.YtlmoibicepppmaaDoorAppend
import Derived.BigQuiet
import Derived.Deep.QuietTactic
namespace Go.Proofs.YtlmoibicepppmaaDoor
open Go.ChangeShapes Go.WideShapes Go.ChangeAt Go.RowKit Go.Deep
set_option maxRecDepth 100000

theorem own_drewN' {w : World} {base : Nat} {e : TypeId} {size : Nat} {v : Value} {n : Nat} {xs : List Value} (h : w.ownsRow base e size v n xs) (k : Nat) : (w.drewN k).ownsRow base e size v n xs := h
theorem info57' : (Tryd.prog.info? 57).map (fun i => (i.zero, i.size, i.bytes)) = some (some (.agg #[.int .i64 0, .string ⟨#[]⟩]), 2, 24) := by kernel_rfl

set_option maxRecDepth 100000 in
set_option maxHeartbeats 2000000 in
theorem refUnpack_any (s : ByteArray) (w : World) (hs : s.size ≤ 1048576) :
    Calls Tryd.prog 36 #[.string s] w fun e w' => ∃ r, e = .returned (.tuple #[r, .int .i64 (Pl.unpErr s.data.toList)]) ∧
      w'.ownsRow w.heap.size 57 2 r (Pl.unpOut s.data.toList).length (cellsOf (Pl.unpOut s.data.toList)) ∧ Below w.heap.size w w' := by
  obtain ⟨i0, hi, hz0, hz1, hz2⟩ := info_parts info57'
  have hsl : s.data.toList.length = s.size := by simp
  have HG : Hid (∀ i (h : i < s.size), s.data.toList.getD i 0 = s[i]) := fun i h => Pl.getD_at s i h
  have HX : Hid (∀ a b, s.extract a b = Pl.txt ((s.data.toList.drop a).take (b - a))) := Pl.extract_txt s
  obtain ⟨L, hL⟩ : ∃ L, s.data.toList = L := ⟨_, rfl⟩
  rw [hL] at hsl HG HX ⊢
  have HSL : Hid (L.length = s.size) := hsl
  clear hL hsl
  go_enter Tryd.func36, Tryd.ntmps36
  go_wp2
  go_loopw [4, 5, 6] (fun r t z wr => ∃ (k : Nat) (done : List (Int × ByteArray)) (la : Int), z = .int .i64 k ∧ t = .int .i64 la ∧ k ≤ s.size ∧ la ≤ 255 ∧ Pl.Mid L done la (L.drop k) ∧
      wr.ownsRow w.heap.size 57 2 r done.length (cellsOf done) ∧ Below w.heap.size w wr) (fun _ _ z _ => s.size - (intOf z).toNat)
  case atStart => exact ⟨0, [], 1, rfl, rfl, Nat.zero_le _, by omega, Pl.Mid.start L, World.ownsRow_nil _ _ _ _, Below.refl _ _⟩
  case round =>
    obtain ⟨k, done, la, rfl, rfl, hk, hla, hmid, hown, hbl⟩ := hrel
    have hsz := hbl.size
    have HM : Hid (Pl.Mid L done la (L.drop k)) := hmid
    have hdl : done.length ≤ 1048576 := by have := hmid.1; have := HSL.out; omega
    have hln : (L.drop k).length = s.size - k := by rw [List.length_drop, HSL.out]
    clear hmid
    by_cases h0 : k = s.size
    · have hnil : L.drop k = [] := List.eq_nil_of_length_eq_zero (by omega)
      have H : Hid (Pl.unpOut L = done ∧ Pl.unpErr L = 0) := by
        have := HM.out
        rw [hnil] at this
        exact this.finish
      have h0' : ¬ k < s.size := by omega
      clear hnil hln h0
      go_wp2
      go_ret2
      rw [H.out.1, H.out.2]
      exact ⟨_, rfl, hown, hbl⟩
    · have hlt : k < s.size := by omega
      have HNN : Hid (L.drop k ≠ []) := by
        intro h
        rw [h] at hln
        simp at hln
        omega
      clear h0
      by_cases h1 : s.size - k < 3
      · have H : Hid (Pl.unpOut L = [] ∧ Pl.unpErr L = 10) := HM.out.fail HNN.out (by simp only [Pl.stepErr, hln, if_pos h1]) (by decide)
        clear hln
        have h1' : (s.size : Int) - (k : Int) < 3 := by omega
        go_wp2
        go_ret2
        rw [H.out.1, H.out.2]
        exact ⟨_, rfl, World.ownsRow_nil _ _ _ _, hbl⟩
      · have h1' : ¬ (s.size : Int) - (k : Int) < 3 := by omega
        have p1 : k + 1 < s.size := by omega
        have p2 : k + 2 < s.size := by omega
        have e0 : Pl.tagOf (L.drop k) = ((s[k]'hlt).toNat : Int) := by rw [Pl.tagOf, Pl.getD_drop, Nat.add_zero, HG.out k hlt]
        have e1 : Pl.lenOf (L.drop k) = 256 * (s[k + 1]'p1).toNat + (s[k + 2]'p2).toNat := by rw [Pl.lenOf, Pl.getD_drop, Pl.getD_drop, HG.out _ p1, HG.out _ p2]
        have b0 : (s[k]'hlt).toNat < 256 := (s[k]'hlt).toNat_lt
        have b1 : (s[k + 1]'p1).toNat < 256 := (s[k + 1]'p1).toNat_lt
        have b2 : (s[k + 2]'p2).toNat < 256 := (s[k + 2]'p2).toNat_lt
        by_cases h2 : (s[k]'hlt).toNat = 0
        · have h2' : (((s[k]'hlt).toNat : Int) == 0) = true := by simp; omega
          have H : Hid (Pl.unpOut L = [] ∧ Pl.unpErr L = 4) := HM.out.fail HNN.out (by unfold Pl.stepErr; rw [e0, hln, if_neg h1, if_pos (by omega)]) (by decide)
          clear e0 e1 hln h2
          go_wp2
          go_ret2
          rw [H.out.1, H.out.2]
          exact ⟨_, rfl, World.ownsRow_nil _ _ _ _, hbl⟩
        · have h2' : (((s[k]'hlt).toNat : Int) == 0) = false := by simp; omega
          by_cases h3 : ((s[k]'hlt).toNat : Int) < la
          · have H : Hid (Pl.unpOut L = [] ∧ Pl.unpErr L = 11) := HM.out.fail HNN.out (by
              unfold Pl.stepErr
              rw [e0, hln, if_neg h1, if_neg (by omega), if_pos h3]) (by decide)
            clear e0 e1 hln h2
            go_wp2
            go_ret2
            rw [H.out.1, H.out.2]
            exact ⟨_, rfl, World.ownsRow_nil _ _ _ _, hbl⟩
          · have q1 : (k : Int) + 1 < (s.size : Int) := by omega
            have q2 : (k : Int) + 2 < (s.size : Int) := by omega
            have q3 : (0 : Int) ≤ (k : Int) + 1 := by omega
            have q4 : (0 : Int) ≤ (k : Int) + 2 := by omega
            by_cases h4 : (s.size : Int) - (k : Int) - 3 < 256 * ((s[k + 1]'p1).toNat : Int) + ((s[k + 2]'p2).toNat : Int)
            · have H : Hid (Pl.unpOut L = [] ∧ Pl.unpErr L = 10) := HM.out.fail HNN.out (by
                unfold Pl.stepErr
                rw [e0, e1, hln, if_neg h1, if_neg (by omega), if_neg h3, if_pos (by omega)]) (by decide)
              clear e0 e1 hln h2
              go_wp2
              go_quiet (fail)
              go_wp2
              go_ret2
              rw [H.out.1, H.out.2]
              exact ⟨_, rfl, World.ownsRow_nil _ _ _ _, Go.below_drewN hbl _⟩
            · have HST : Hid (Pl.Mid L (done ++ [Pl.fieldOf (L.drop k)]) (Pl.tagOf (L.drop k)) ((L.drop k).drop (3 + Pl.lenOf (L.drop k)))) := HM.out.step HNN.out (by
                unfold Pl.stepErr
                rw [e0, e1, hln, if_neg h1, if_neg (by omega), if_neg h3, if_neg (by omega)])
              have HFO : Hid (Pl.fieldOf (L.drop k) = (((s[k]'hlt).toNat : Int), s.extract (k + 3) (k + 3 + (256 * (s[k + 1]'p1).toNat + (s[k + 2]'p2).toNat)))) := by
                show Pl.fieldOf (L.drop k) = _
                unfold Pl.fieldOf
                rw [e0, e1, HX.out, List.drop_drop, show k + 3 + (256 * (s[k + 1]'p1).toNat + (s[k + 2]'p2).toNat) - (k + 3) = 256 * (s[k + 1]'p1).toNat + (s[k + 2]'p2).toNat from by omega]
              have HE0 : Hid (Pl.tagOf (L.drop k) = ((s[k]'hlt).toNat : Int)) := e0
              have HE1 : Hid (Pl.lenOf (L.drop k) = 256 * (s[k + 1]'p1).toNat + (s[k + 2]'p2).toNat) := e1
              clear e0 e1 hln h2
              go_wp2
              go_quiet (fail)
              go_wp2_with (at_builtin; refine wpList_append_own _ rfl (.tmp 46) (.tmp 57) 58 rfl w.heap.size 57 i0 (.agg #[.int .i64 0, .string ⟨#[]⟩]) 2 24 Tryd.underlying58 hi hz0 hz1 hz2 rfl (by decide) _ _ _ rfl ((own_drewN' hown _).alloc _) ⟨wr.heap.size, 0, none⟩ 1 1 [.int .i64 ((s[k]'hlt).toNat : Int), .string (s.extract (k + 3) (k + 3 + (256 * (s[k + 1]'p1).toNat + (s[k + 2]'p2).toNat)))] rfl rfl (App.two_new _ _ rfl _ _ _) (App.one2 _ _) (by unfold maxLen; omega) (by omega) (by first | omega | (simp; omega)) ?_; intro v1 w1 hown1 hgrow1 _)
              go_roundw
              case rel =>
                refine ⟨k + (3 + Pl.lenOf (L.drop k)), done ++ [Pl.fieldOf (L.drop k)], Pl.tagOf (L.drop k), ?_, by rw [HE0.out], ?_, by rw [HE0.out]; omega, ?_, ?_, ?_⟩
                · rw [HE1.out]; go_num
                · rw [HE1.out]; omega
                · rw [← List.drop_drop]; exact HST.out
                · rw [HFO.out, cellsOf_append, List.length_append]
                  exact hown1
                · exact ((Go.below_drewN hbl _).alloc hsz _).grown hgrow1 (by simp; omega) (fun g hg => (hown.lt g hg).1)
              case measure => simp only [intOf]; omega
end Go.Proofs.YtlmoibicepppmaaDoor
