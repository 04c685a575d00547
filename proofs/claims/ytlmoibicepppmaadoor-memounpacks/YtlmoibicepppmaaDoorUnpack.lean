/-
  What tlv.Unpack answers, in whatever world, of a string that is not too long: by its walk.
-/
import Derived.Test.YtlmoibicepppmaaDoorNum
import Derived.Test.YtlmoibicepppmaaDoorFields
import Derived.Test.YtlmoibicepppmaaDoorPlainU
import Derived.Test.YtlmoibicepppmaaDoorAppend
import Derived.BigQuiet
import Derived.Deep.QuietTactic
namespace Go.Proofs.YtlmoibicepppmaaDoor
open Go.ChangeShapes Go.WideShapes Go.ChangeAt Go.RowKit Go.Deep
set_option maxRecDepth 100000

theorem own_drewN {w : World} {base : Nat} {e : TypeId} {size : Nat} {v : Value} {n : Nat} {xs : List Value} (h : w.ownsRow base e size v n xs) (k : Nat) : (w.drewN k).ownsRow base e size v n xs := h
theorem extract_rest (S : ByteArray) (a : Nat) : (S.extract a S.size).data.toList = S.data.toList.drop a := by
  rw [Pl.extract_txt, Pl.txt_data, List.take_of_length_le (by simp)]
theorem info78 : (Tryd.prog.info? 78).map (fun i => (i.zero, i.size, i.bytes)) = some (some (.agg #[.int .i64 0, .string ⟨#[]⟩]), 2, 24) := by kernel_rfl

set_option maxRecDepth 100000 in
set_option maxHeartbeats 2000000 in
theorem unpack_any (s : ByteArray) (w : World) (hs : s.size ≤ 1048576) :
    Calls Tryd.prog 61 #[.string s] w fun e w' => ∃ r, e = .returned (.tuple #[r, .int .i64 (Pl.unpErr s.data.toList)]) ∧
      w'.ownsRow w.heap.size 78 2 r (Pl.unpOut s.data.toList).length (cellsOf (Pl.unpOut s.data.toList)) ∧ Below w.heap.size w w' := by
  obtain ⟨i0, hi, hz0, hz1, hz2⟩ := info_parts info78
  have hsl : s.data.toList.length = s.size := by simp
  have HM0 : Hid (Pl.Mid s.data.toList [] 1 s.data.toList) := Pl.Mid.start _
  obtain ⟨L, hL⟩ : ∃ L, s.data.toList = L := ⟨_, rfl⟩
  rw [hL] at hsl ⊢
  have HL : Hid (s.data.toList = L) := hL
  have HSL : Hid (L.length = s.size) := hsl
  clear hL hsl
  go_enter Tryd.func61, Tryd.ntmps61
  go_wp2
  go_step3
  go_wp2
  go_step3
  go_wp2
  go_loopw [0, 4, 5] (fun z r t wr => ∃ (S : ByteArray) (done : List (Int × ByteArray)) (la : Int), z = .string S ∧ t = .int .i64 la ∧ S.size ≤ 1048576 ∧ la ≤ 255 ∧ Pl.Mid L done la S.data.toList ∧
      wr.ownsRow w.heap.size 78 2 r done.length (cellsOf done) ∧ Below w.heap.size w wr) (fun z _ _ _ => match z with | .string S => S.size | _ => 0)
  case atStart => exact ⟨s, [], 1, rfl, rfl, hs, by omega, by rw [HL.out]; exact Pl.Mid.start L, World.ownsRow_nil _ _ _ _, Below.refl _ _⟩
  case round =>
    obtain ⟨S, done, la, rfl, rfl, hS, hla, hmid, hown, hbl⟩ := hrel
    have hsz := hbl.size
    have HM : Hid (Pl.Mid L done la S.data.toList) := hmid
    have hdl : done.length ≤ 1048576 := by have := hmid.1; have := HSL.out; omega
    have hln : S.data.toList.length = S.size := by simp
    clear hmid
    by_cases h0 : S.size = 0
    · have hnil : S.data.toList = [] := List.eq_nil_of_length_eq_zero (by omega)
      have hem : S.toList.isEmpty = true := by rw [ByteArray.toList_eq, hnil]; rfl
      have H : Hid (Pl.unpOut L = done ∧ Pl.unpErr L = 0) := by
        have := HM.out
        rw [hnil] at this
        exact this.finish
      clear hnil hln h0
      go_wp2
      rw [Exit.noGoto_ret]
      go_ret2
      rw [H.out.1, H.out.2]
      exact ⟨_, rfl, hown, hbl⟩
    · have hnn : S.data.toList ≠ [] := by
        intro h
        rw [h] at hln
        simp at hln
        omega
      have hne : S.toList.isEmpty = false := by rw [ByteArray.toList_eq, List.isEmpty_eq_false_iff]; exact hnn
      have HNN : Hid (S.data.toList ≠ []) := hnn
      clear hnn
      by_cases h1 : S.size < 3
      · have H : Hid (Pl.unpOut L = [] ∧ Pl.unpErr L = 10) := HM.out.fail HNN.out (by simp [Pl.stepErr, hln, h1]) (by decide)
        clear hln
        go_wp2
        rw [Exit.noGoto_ret]
        go_ret2
        rw [H.out.1, H.out.2]
        exact ⟨_, rfl, World.ownsRow_nil _ _ _ _, hbl⟩
      · have p0 : 0 < S.size := by omega
        have p1 : 1 < S.size := by omega
        have p2 : 2 < S.size := by omega
        have e0 : Pl.tagOf S.data.toList = ((S[0]'p0).toNat : Int) := by rw [Pl.tagOf, Pl.getD_at S 0 p0]
        have e1 : Pl.lenOf S.data.toList = 256 * (S[1]'p1).toNat + (S[2]'p2).toNat := by rw [Pl.lenOf, Pl.getD_at S 1 p1, Pl.getD_at S 2 p2]
        have b0 : (S[0]'p0).toNat < 256 := (S[0]'p0).toNat_lt
        have b1 : (S[1]'p1).toNat < 256 := (S[1]'p1).toNat_lt
        have b2 : (S[2]'p2).toNat < 256 := (S[2]'p2).toNat_lt
        by_cases h2 : (S[0]'p0).toNat = 0
        · have h2' : (((S[0]'p0).toNat : Int) == 0) = true := by simp; omega
          have H : Hid (Pl.unpOut L = [] ∧ Pl.unpErr L = 4) := HM.out.fail HNN.out (by simp [Pl.stepErr, hln, h1, e0, h2]) (by decide)
          clear e0 e1 hln h2
          go_wp2
          rw [Exit.noGoto_ret]
          go_ret2
          rw [H.out.1, H.out.2]
          exact ⟨_, rfl, World.ownsRow_nil _ _ _ _, hbl⟩
        · have h2' : (((S[0]'p0).toNat : Int) == 0) = false := by simp; omega
          by_cases h3 : ((S[0]'p0).toNat : Int) < la
          · have H : Hid (Pl.unpOut L = [] ∧ Pl.unpErr L = 11) := HM.out.fail HNN.out (by
              unfold Pl.stepErr
              rw [e0, hln, if_neg h1, if_neg (by omega), if_pos h3]) (by decide)
            clear e0 e1 hln h2
            go_wp2
            rw [Exit.noGoto_ret]
            go_ret2
            rw [H.out.1, H.out.2]
            exact ⟨_, rfl, World.ownsRow_nil _ _ _ _, hbl⟩
          · have q1 : (1 : Int) < (S.size : Int) := by omega
            have q2 : (2 : Int) < (S.size : Int) := by omega
            by_cases h4 : (S.size : Int) < 3 + ((S[1]'p1).toNat : Int) * 256 + ((S[2]'p2).toNat : Int)
            · have H : Hid (Pl.unpOut L = [] ∧ Pl.unpErr L = 10) := HM.out.fail HNN.out (by
                unfold Pl.stepErr
                rw [e0, e1, hln, if_neg h1, if_neg (by omega), if_neg h3, if_pos (by omega)]) (by decide)
              clear e0 e1 hln h2
              go_wp2
              go_quiet (fail)
              go_wp2
              rw [Exit.noGoto_ret]
              go_ret2
              rw [H.out.1, H.out.2]
              exact ⟨_, rfl, World.ownsRow_nil _ _ _ _, Go.below_drewN hbl _⟩
            · have HST : Hid (Pl.Mid L (done ++ [Pl.fieldOf S.data.toList]) (Pl.tagOf S.data.toList) (S.data.toList.drop (3 + Pl.lenOf S.data.toList))) := HM.out.step HNN.out (by
                unfold Pl.stepErr
                rw [e0, e1, hln, if_neg h1, if_neg (by omega), if_neg h3, if_neg (by omega)])
              have HFO : Hid (Pl.fieldOf S.data.toList = (((S[0]'p0).toNat : Int), S.extract 3 (3 + (S[1]'p1).toNat * 256 + (S[2]'p2).toNat))) := by
                show Pl.fieldOf S.data.toList = _
                unfold Pl.fieldOf
                rw [e0, e1, Pl.extract_txt, show 3 + (S[1]'p1).toNat * 256 + (S[2]'p2).toNat - 3 = 256 * (S[1]'p1).toNat + (S[2]'p2).toNat from by omega]
              have HE0 : Hid (Pl.tagOf S.data.toList = ((S[0]'p0).toNat : Int)) := e0
              have HE1 : Hid (Pl.lenOf S.data.toList = 256 * (S[1]'p1).toNat + (S[2]'p2).toNat) := e1
              clear e0 e1 hln h2
              go_wp2
              go_quiet (fail)
              go_wp2_with (at_builtin; refine wpList_append_own _ rfl (.tmp 40) (.tmp 46) 52 rfl w.heap.size 78 i0 (.agg #[.int .i64 0, .string ⟨#[]⟩]) 2 24 Tryd.underlying52 hi hz0 hz1 hz2 rfl (by decide) _ _ _ rfl ((own_drewN hown _).alloc _) ⟨wr.heap.size, 0, none⟩ 1 1 [.int .i64 ((S[0]'p0).toNat : Int), .string (S.extract 3 (3 + (S[1]'p1).toNat * 256 + (S[2]'p2).toNat))] rfl rfl (App.two_new _ _ rfl _ _ _) (App.one2 _ _) (by unfold maxLen; omega) (by omega) (by first | omega | (simp; omega)) ?_; intro v1 w1 hown1 hgrow1 _)
              go_roundw
              case rel =>
                refine ⟨_, done ++ [Pl.fieldOf S.data.toList], Pl.tagOf S.data.toList, rfl, by rw [HE0.out], ?_, by rw [HE0.out]; omega, ?_, ?_, ?_⟩
                · rw [ByteArray.size_extract]; omega
                · rw [extract_rest, show 3 + (S[1]'p1).toNat * 256 + (S[2]'p2).toNat = 3 + Pl.lenOf S.data.toList from by rw [HE1.out]; omega]
                  exact HST.out
                · rw [HFO.out, cellsOf_append, List.length_append]
                  exact hown1
                · exact ((Go.below_drewN hbl _).alloc hsz _).grown hgrow1 (by simp; omega) (fun g hg => (hown.lt g hg).1)
              case measure => simp only [ByteArray.size_extract]; omega
end Go.Proofs.YtlmoibicepppmaaDoor
