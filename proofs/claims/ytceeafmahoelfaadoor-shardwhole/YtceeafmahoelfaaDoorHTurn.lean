/-
  A text with some bits turned that lie within 32 in a row.
-/
import Derived.Test.YtceeafmahoelfaaDoorHLaw
import Derived.Laws.IdiomStrings
import Derived.Laws.BitsAllLaws
namespace Go.Proofs.YtceeafmahoelfaaDoor
open Go.ChangeShapes Go.WideShapes Go.ChangeAt Go.RowKit

/-- What []byte(s) lays. -/
theorem bytes_laid (w : World) (s : ByteArray) : ∃ W cp, (convert 9 67 (.string s)).run Tryd.prog w = .ok (.slice (some ⟨w.heap.size, 0, none⟩) s.size cp) W ∧ w.grownBy W none ∧ W.heap.size = w.heap.size + 1 ∧
    ∀ j (hj : j < s.size), W.cell? ⟨w.heap.size, j, none⟩ = some (.int .u8 ((s.data[j]'hj).toNat : Int)) ∧ W.frozen? ⟨w.heap.size, j, none⟩ = false := by
  refine ⟨_, _, run_bytes_of_string w 9 67 5 s Tryd.underlying9 Tryd.underlying67 Tryd.underlying5, ?_, by simp, fun j hj => ?_⟩
  · have := World.grownBy_alloc w.drew (.cells (bytesRow s (grownCap w s.size 0 5)) 5 ((bytesRow s (grownCap w s.size 0 5)).size, (bytesRow s (grownCap w s.size 0 5)).size + 1)) none
    exact ⟨this.os, this.tape, this.output, this.size, this.block⟩
  · have hb := heap_alloc_new w.drew (.cells (bytesRow s (grownCap w s.size 0 5)) 5 ((bytesRow s (grownCap w s.size 0 5)).size, (bytesRow s (grownCap w s.size 0 5)).size + 1))
    have hsz : s.data.size = s.size := rfl
    constructor
    · simp only [World.cell?, show w.drew.heap.size = w.heap.size from rfl] at hb ⊢
      rw [hb]
      have hj' : j < s.data.size := hj
      simp [bytesRow, Array.getElem?_append]
      rw [if_pos hj, Array.getElem?_eq_getElem hj']
      rfl
    · simp only [World.frozen?, show w.drew.heap.size = w.heap.size from rfl] at hb ⊢
      rw [hb]
      simp [bytesRow]
      omega
theorem xor_pow8 (y : UInt8) {r : Nat} (h : r < 8) : bits .xor .u8 (y.toNat : Int) ((2 : Int) ^ r % 256) = ((UInt8.ofNat (y.toNat ^^^ 2 ^ r)).toNat : Int) := by
  have h1 : 2 ^ r < 256 := Nat.pow_lt_pow_right (by decide : 1 < 2) h
  have hx : y.toNat ^^^ 2 ^ r < 256 := Nat.xor_lt_two_pow (n := 8) y.toNat_lt h1
  have h3 : (2 : Int) ^ r % 256 = ((2 ^ r : Nat) : Int) := by
    rw [Int.natCast_pow]
    have : ((2 ^ r : Nat) : Int) < ((256 : Nat) : Int) := Int.ofNat_lt.2 h1
    rw [Int.natCast_pow] at this
    exact Int.emod_eq_of_lt (Int.pow_nonneg (by decide)) this
  rw [h3, UInt8.toNat_ofNat_of_lt' (by simpa using hx)]
  exact u8_xor_nat _ _ y.toNat_lt h1
/-- The block G holds the bytes M. -/
def BytesAt (w : World) (G : Nat) (M : List UInt8) : Prop := G < w.heap.size ∧ ∀ j c, M[j]? = some c → w.cell? ⟨G, j, none⟩ = some (.int .u8 (c.toNat : Int)) ∧ w.frozen? ⟨G, j, none⟩ = false
theorem BytesAt.put {w : World} {G : Nat} {M : List UInt8} (h : BytesAt w G M) {i : Nat} (c : UInt8) : BytesAt (w.setCell ⟨G, i, none⟩ (.int .u8 (c.toNat : Int))) G (M.set i c) := by
  refine ⟨by simpa [World.setCell] using h.1, fun j d hj => ?_⟩
  have hl : j < M.length := by simpa using (List.getElem?_eq_some_iff.1 hj).1
  obtain ⟨h1, h2⟩ := h.2 j _ (List.getElem?_eq_getElem hl)
  by_cases e : j = i
  · subst e
    rw [List.getElem?_set_self hl] at hj
    cases hj
    exact ⟨World.cell?_setCell_same _ _ _ h1, by rw [World.frozen?_setCell]; exact h2⟩
  · rw [List.getElem?_set_ne (Ne.symm e), List.getElem?_eq_getElem hl] at hj
    cases hj
    exact ⟨(World.cell?_setCell_other _ _ _ _ (fun h => e (Addr.mk.inj h).2.1.symm)).trans h1, by rw [World.frozen?_setCell]; exact h2⟩
theorem Pl.mul_xor (b q i : Nat) : 2 ^ b * q ^^^ 2 ^ (b + i) = 2 ^ b * (q ^^^ 2 ^ i) := by
  rw [Nat.pow_add]
  apply Nat.eq_of_testBit_eq
  intro j
  rw [Nat.testBit_xor, Nat.testBit_two_pow_mul, Nat.testBit_two_pow_mul, Nat.testBit_two_pow_mul, Nat.testBit_xor]
  cases decide (b ≤ j) <;> simp
theorem Pl.q_step {q i : Nat} (h : q < 2 ^ i) : q ^^^ 2 ^ i < 2 ^ (i + 1) ∧ q ^^^ 2 ^ i ≠ 0 := by
  have h1 : q < 2 ^ (i + 1) := Nat.lt_trans h (Nat.pow_lt_pow_right (by decide) (by omega))
  refine ⟨Nat.xor_lt_two_pow h1 (Nat.pow_lt_pow_right (by decide) (by omega)), fun e => ?_⟩
  have := Pl.xor_eq_zero e
  omega
set_option maxRecDepth 100000 in
set_option maxRecDepth 100000 in
set_option maxHeartbeats 2000000 in
theorem turned_any (s : ByteArray) (bit pat : Int) (w : World) (hs : s.size ≤ 65536) : Calls Tryd.prog 23 #[.string s, .int .i64 bit, .int .i64 pat] w fun e w' => ∃ t, e = .returned (.string t) ∧ t.size = s.size ∧ (t = s ∨ Sh.sum t ≠ Sh.sum s) ∧ (pat = 0 → t = s) ∧ Below w.heap.size w w' := by
  obtain ⟨W, cp, hcv, hgW, hWs, hcell⟩ := bytes_laid w s
  have HGW : Hid (Below w.heap.size w W) := below_none hgW (Nat.le_refl _)
  have HBY : Hid (BytesAt W w.heap.size s.data.toList) := ⟨by omega, fun j c hj => by
    have hl : j < s.size := by simpa using (List.getElem?_eq_some_iff.1 hj).1
    obtain ⟨h1, h2⟩ := hcell j hl
    have : c = s.data[j]'hl := by
      have := (List.getElem?_eq_some_iff.1 hj).2
      simpa using this.symm
    rw [this]
    exact ⟨h1, h2⟩⟩
  clear hgW hcell
  go_enter Tryd.func23, Tryd.ntmps23
  by_cases hb0 : bit < 0
  · go_wp2
    go_ret
    exact ⟨s, rfl, rfl, .inl rfl, fun _ => rfl, HGW.out⟩
  by_cases hb1 : 65536 < bit
  · go_wp2
    go_ret
    exact ⟨s, rfl, rfl, .inl rfl, fun _ => rfl, HGW.out⟩
  obtain ⟨b, rfl⟩ : ∃ b : Nat, bit = b := ⟨bit.toNat, by omega⟩
  go_wp2
  obtain ⟨G, hG⟩ : ∃ G, w.heap.size = G := ⟨_, rfl⟩
  rw [hG] at HBY ⊢
  have HGG : Hid (w.heap.size = G) := hG
  clear hG hcv hWs
  go_loopw [8] (fun u wr => ∃ (i q : Nat) (M : List UInt8), i ≤ 32 ∧ u = .int .i64 i ∧ Hid (M.length = s.size) ∧ Hid (BytesAt wr G M) ∧ Hid (Pl.big M = Pl.big s.data.toList ^^^ 2 ^ b * q) ∧ Hid (q < 2 ^ i) ∧ Hid (q ≠ 0 → b ≤ 8 * s.size) ∧ Hid (pat = 0 → q = 0) ∧ Hid (Below G w wr)) (fun u _ => 32 - (intOf u).toNat)
  case atStart => exact ⟨0, 0, s.data.toList, by omega, rfl, show s.data.toList.length = s.size by simp, HBY, show _ = _ by simp, show 0 < 2 ^ 0 by decide, fun h => absurd rfl h, fun _ => rfl, by rw [← HGG.out]; exact HGW.out⟩
  case round =>
    obtain ⟨i, q, M, hi, rfl, HML, HM, HBG, HQ, HQB, HP0, HBL⟩ := hrel
    by_cases hlt : i < 32
    · have hltI : (i : Int) < 32 := by omega
      have hi0 : (0 : Int) ≤ (i : Int) := by omega
      by_cases hp : bits .and .i64 (pat / 2 ^ i) 1 = 1
      · have HPN : Hid (¬ pat = 0) := show ¬ pat = 0 from fun h0 => by
          rw [h0, Int.zero_ediv] at hp
          revert hp
          decide
        by_cases h8 : (b : Int) + (i : Int) < 8 * (s.size : Int)
        · have hbi : (0 : Int) ≤ (b : Int) + (i : Int) := by omega
          have hl : (b + i) / 8 < M.length := by rw [HML.out]; omega
          obtain ⟨c, hc⟩ : ∃ c, M[(b + i) / 8]? = some c := ⟨_, List.getElem?_eq_getElem hl⟩
          obtain ⟨c0, f0⟩ := HM.out.2 _ c hc
          have hx := xor_pow8 c (r := (b + i) % 8) (Nat.mod_lt _ (by decide))
          have HM2 : Hid (BytesAt (wr.setCell ⟨G, (b + i) / 8, none⟩ (.int .u8 ((UInt8.ofNat (c.toNat ^^^ 2 ^ ((b + i) % 8))).toNat : Int))) G (M.set ((b + i) / 8) (UInt8.ofNat (c.toNat ^^^ 2 ^ ((b + i) % 8))))) := HM.out.put _
          have HB2 : Hid (Pl.big (M.set ((b + i) / 8) (UInt8.ofNat (c.toNat ^^^ 2 ^ ((b + i) % 8)))) = Pl.big s.data.toList ^^^ 2 ^ b * (q ^^^ 2 ^ i)) := show _ = _ by
            rw [Pl.big_set _ _ _ c hc (Nat.mod_lt _ (by decide)), HBG.out, Nat.xor_assoc, show 8 * ((b + i) / 8) + (b + i) % 8 = b + i from Nat.div_add_mod _ _, Pl.mul_xor]
          have HQ2 : Hid (q ^^^ 2 ^ i < 2 ^ (i + 1)) := (Pl.q_step HQ.out).1
          have HL2 : Hid ((M.set ((b + i) / 8) (UInt8.ofNat (c.toNat ^^^ 2 ^ ((b + i) % 8)))).length = s.size) := show _ = _ by rw [List.length_set]; exact HML.out
          have hGl := HM.out.1
          have hdI : ((b : Int) + (i : Int)) / 8 < (s.size : Int) := by omega
          have hdJ : (0 : Int) ≤ ((b : Int) + (i : Int)) / 8 := by omega
          obtain ⟨y, hy⟩ : ∃ y, ((UInt8.ofNat (c.toNat ^^^ 2 ^ ((b + i) % 8))).toNat : Int) = y := ⟨_, rfl⟩
          rw [hy] at hx HM2
          clear hy hc hl
          go_wp2
          go_roundw
          case rel => exact ⟨i + 1, q ^^^ 2 ^ i, _, by omega, by go_num, HL2, HM2, HB2, HQ2, fun _ => by omega, fun h => absurd h HPN.out, HBL.out.setCell (Nat.le_refl _) _⟩
          case measure => simp [intOf]; omega
        · go_wp2
          go_roundw
          case rel => exact ⟨i + 1, q, M, by omega, by go_num, HML, HM, HBG, Nat.lt_trans HQ.out (Nat.pow_lt_pow_right (by decide) (by omega)), HQB, HP0, HBL⟩
          case measure => simp [intOf]; omega
      · go_wp2
        go_roundw
        case rel => exact ⟨i + 1, q, M, by omega, by go_num, HML, HM, HBG, Nat.lt_trans HQ.out (Nat.pow_lt_pow_right (by decide) (by omega)), HQB, HP0, HBL⟩
        case measure => simp [intOf]; omega
    · obtain rfl : i = 32 := by omega
      have hcv2 := conv_bytes wr G s.size cp M HML.out (fun j hj => by
        obtain ⟨h1, _⟩ := HM.out.2 j _ (List.getElem?_eq_getElem (by rw [HML.out]; exact hj))
        rw [h1]
        simp [List.getD, show j < M.length by rw [HML.out]; exact hj])
      have hT : (⟨M.toArray⟩ : ByteArray).size = s.size := by
        show M.toArray.size = s.size
        rw [List.size_toArray]
        exact HML.out
      have hD : (⟨M.toArray⟩ : ByteArray) = s ∨ Sh.sum ⟨M.toArray⟩ ≠ Sh.sum s := by
        by_cases hq : q = 0
        · left
          have := HBG.out
          rw [hq, Nat.mul_zero, Nat.xor_zero] at this
          have hM := Pl.big_inj _ _ (by rw [HML.out]; simp) this
          rw [hM]
        · right
          unfold Sh.sum
          exact Pl.burst (by show M.toArray.toList.length = _; simp; exact HML.out) (by show Pl.big M.toArray.toList = _; simpa using HBG.out) HQ.out hq (by simpa using HQB.out hq)
      have hZ : pat = 0 → (⟨M.toArray⟩ : ByteArray) = s := fun h0 => by
        have := HBG.out
        rw [HP0.out h0, Nat.mul_zero, Nat.xor_zero] at this
        rw [Pl.big_inj _ _ (by rw [HML.out]; simp) this]
      have HTD : Hid ((⟨M.toArray⟩ : ByteArray).size = s.size ∧ ((⟨M.toArray⟩ : ByteArray) = s ∨ Sh.sum ⟨M.toArray⟩ ≠ Sh.sum s) ∧ (pat = 0 → (⟨M.toArray⟩ : ByteArray) = s)) := ⟨hT, hD, hZ⟩
      clear hT hD hZ
      generalize (⟨M.toArray⟩ : ByteArray) = T at *
      go_wp2
      go_ret
      exact ⟨T, rfl, HTD.out.1, HTD.out.2.1, HTD.out.2.2, by rw [HGG.out]; exact HBL.out⟩
end Go.Proofs.YtceeafmahoelfaaDoor
