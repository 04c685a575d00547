/-
  The document's tally: Best.
-/
import Derived.Test.YtdcknokggjbebaaYRef
namespace Go.Proofs.Ytdcknokggjbebaa
open Go.ChangeShapes Go.WideShapes Go.ChangeAt Go.RowKit Go.Deep
def Ty.allNo (l : List Bd) (a : Bd) : Bool := l.all fun y => !Ty.bet y a
theorem Ty.allNo_at {l : List Bd} {k : Nat} {y a : Bd} (h : l[k]? = some y) : Ty.allNo (l.take (k + 1)) a = (Ty.allNo (l.take k) a && !Ty.bet y a) := by
  unfold Ty.allNo
  rw [Ty.take_at h, List.all_append]
  simp
set_option maxRecDepth 100000 in
set_option maxHeartbeats 16000000 in
theorem rbest_any {B s : Nat} {m : Int} {L : List Bd} (w : World) (h : RA w B s m L) (hl : L.length ≤ 7) : Calls Try.prog 17 #[.pointer (some ⟨s, 0, none⟩)] w fun e w' => e = .returned (.tuple #[VB (Ty.best L), .int .i64 (Ty.bestE L)]) ∧ Below w.heap.size w w' := by
  obtain ⟨p, n, cap, hs, hr⟩ := h.out
  have HS : Hid (w.heap[s]? = some (.cells #[.int .i64 m, .slice p n cap] 45)) := hs
  have HSL : Hid (s < w.heap.size) := h.lt
  obtain ⟨ao, cap', hv, -, hx⟩ := hr.at.wide.open
  simp only [Value.slice.injEq] at hv
  obtain ⟨rfl, hn, rfl⟩ := hv
  have HN : Hid (n = L.length) := hn
  have hn7 : n ≤ 7 := by rw [hn]; exact hl
  have HX : Hid (OverB w p L) := hx
  obtain ⟨R, hR⟩ : ∃ R, w.heap.size = R := ⟨_, rfl⟩
  have HR : Hid (w.heap.size = R) := hR
  obtain ⟨W, hW⟩ : ∃ W, w.alloc (BR (0, 0, 0)) = W := ⟨_, rfl⟩
  have HW : Hid (w.alloc (BR (0, 0, 0)) = W) := hW
  have HBW : Hid (Below w.heap.size w W) := by rw [← hW]; exact (Below.refl _ _).alloc (Nat.le_refl _) _
  have HRW : Hid (W.heap[R]? = some (BR (0, 0, 0))) := by rw [← hW, ← hR]; exact heap_alloc_new _ _
  obtain ⟨⟨-, c1⟩, -⟩ := ra_cells hs
  have c1' := fun o => (cell_older h.lt o 1).trans c1
  clear hs hr hx hn h hl hW hR c1
  go_enter Try.func17, Try.ntmps17
  go_wp2
  rw [HW.out, HR.out]
  clear c1'
  go_loopw [14] (fun i wr => ∃ k : Nat, k ≤ n ∧ i = .int .i64 k ∧ Hid (∀ x ∈ L.take k, x ≠ Ty.best L) ∧ Hid (Below w.heap.size w wr) ∧ Hid (wr.heap[R]? = some (BR (0, 0, 0)))) (fun i _ => n - (intOf i).toNat)
  case atStart => exact ⟨0, Nat.zero_le _, rfl, (fun x hx => by simp at hx), HBW.out, HRW.out⟩
  case round =>
    obtain ⟨k, hk, rfl, HP, HB, HRR⟩ := hrel
    have hsz := HB.out.size
    by_cases hlt : k < n
    · obtain ⟨x, hxk⟩ : ∃ x, L[k]? = some x := ⟨_, List.getElem?_eq_getElem (by rw [← HN.out]; exact hlt)⟩
      have HXK : Hid (L[k]? = some x) := hxk
      obtain ⟨b, off, rfl, -, hB, hc⟩ := HX.out k x hxk
      obtain ⟨d0, d1, d2⟩ := bid_cells HB.out hB hc
      have hlt' : (k : Int) < (n : Int) := by omega
      obtain ⟨V, hV⟩ : ∃ V, wr.alloc (BR x) = V := ⟨_, rfl⟩
      have HV : Hid (wr.alloc (BR x) = V) := hV
      have hbV : Below wr.heap.size wr V := by rw [← hV]; exact (Below.refl _ _).alloc (Nat.le_refl _) _
      have HBV : Hid (Below w.heap.size w V) := HB.out.trans (hbV.mono hsz)
      have HRV : Hid (V.heap[R]? = some (BR (0, 0, 0))) := (hbV.block R (Array.getElem?_eq_some_iff.1 HRR.out).1).trans HRR.out
      obtain ⟨A, hA⟩ : ∃ A, wr.heap.size = A := ⟨_, rfl⟩
      have HA : Hid (wr.heap.size = A) := hA
      have HAV : Hid (V.heap[A]? = some (BR x)) := by rw [← hV, ← hA]; exact heap_alloc_new _ _
      obtain ⟨⟨-, e1⟩, -⟩ := ra_cells ((HB.out.block s HSL.out).trans HS.out)
      have e1' := fun o => (cell_older (Nat.lt_of_lt_of_le HSL.out hsz) o 1).trans e1
      clear hc hxk hB hbV hV hA e1
      go_wp2
      rw [HV.out, HA.out]
      clear d0 d1 d2 e1'
      go_loopw [6, 23] (fun u i wq => ∃ j : Nat, j ≤ n ∧ i = .int .i64 j ∧ u = .bool (Ty.allNo (L.take j) x) ∧ Hid (Below V.heap.size V wq)) (fun _ i _ => n - (intOf i).toNat)
      case atStart => exact ⟨0, Nat.zero_le _, rfl, rfl, Below.refl _ _⟩
      case round =>
        obtain ⟨j, hj, rfl, rfl, HBQ⟩ := hrel
        have HBW2 : Hid (Below w.heap.size w wr) := HBV.out.trans (HBQ.out.mono HBV.out.size)
        have hszq := HBQ.out.size
        have HAQ : Hid (wr.heap[A]? = some (BR x)) := (HBQ.out.block A (Array.getElem?_eq_some_iff.1 HAV.out).1).trans HAV.out
        obtain ⟨al, hal⟩ : ∃ al, Ty.allNo (L.take j) x = al := ⟨_, rfl⟩
        have HAL : Hid (Ty.allNo (L.take j) x = al) := hal
        rw [hal]
        clear hal
        by_cases hlj : j < n
        · obtain ⟨y, hyj⟩ : ∃ y, L[j]? = some y := ⟨_, List.getElem?_eq_getElem (by rw [← HN.out]; exact hlj)⟩
          obtain ⟨b2, off2, hb2, -, hB, hc⟩ := HX.out j y hyj
          simp only [Option.some.injEq, Addr.mk.injEq, and_true] at hb2
          obtain ⟨rfl, rfl⟩ := hb2
          obtain ⟨d0, d1, d2⟩ := bid_cells HBW2.out hB hc
          have hlj' : (j : Int) < (n : Int) := by omega
          obtain ⟨⟨a0, a1, a2⟩, -⟩ := bid_of HAQ.out
          have hAl : A < wr.heap.size := World.block_lt_of_cell? _ _ a0
          have a0' := fun o => (cell_older hAl o 0).trans a0
          have a1' := fun o => (cell_older hAl o 1).trans a1
          have a2' := fun o => (cell_older hAl o 2).trans a2
          have HAN : Hid (Ty.allNo (L.take (j + 1)) x = (al && !Ty.bet y x)) := by show _ = _; rw [Ty.allNo_at hyj, HAL.out]
          have HBA : Hid (Below V.heap.size V (wr.alloc (BR y))) := HBQ.out.alloc hszq _
          clear hyj hc hB a0 a1 a2
          go_wp2_with fail
          refine (rbetter_any _ _ _).mono ?_
          rintro e w5 ⟨rfl, hg5⟩
          have HB5 : Hid (Below V.heap.size V w5) := HBA.out.trans ((below_none hg5 (Nat.le_refl _)).mono HBA.out.size)
          clear hg5 d0 d1 d2 a0' a1' a2'
          cases hbt : Ty.bet y x with
          | true =>
            have HE : Hid (Ty.allNo (L.take (j + 1)) x = false) := by show _ = _; rw [HAN.out, hbt]; simp
            go_wp2
            go_roundw
            case rel => exact ⟨j + 1, by omega, by go_num, by rw [HE.out], HB5.out⟩
            case measure => simp [intOf]; omega
          | false =>
            have HE : Hid (Ty.allNo (L.take (j + 1)) x = al) := by show _ = _; rw [HAN.out, hbt]; simp
            go_wp2
            go_roundw
            case rel => exact ⟨j + 1, by omega, by go_num, by rw [HE.out], HB5.out⟩
            case measure => simp [intOf]; omega
        · obtain rfl : n = j := by omega
          have HALL : Hid (Ty.allNo L x = al) := by have := HAL.out; rwa [HN.out, List.take_length] at this
          have HRQ : Hid (wr.heap[R]? = some (BR (0, 0, 0))) := (HBQ.out.block R (Array.getElem?_eq_some_iff.1 HRV.out).1).trans HRV.out
          cases al with
          | true =>
            have HBE : Hid (x = Ty.best L) := Ty.best_only (List.mem_of_getElem? HXK.out) (fun y hy => by
              have := HALL.out
              unfold Ty.allNo at this
              have := List.all_eq_true.1 this y hy
              simpa using this)
            have HE0 : Hid (Ty.bestE L = 0) := Ty.bestE_iff.2 (by rw [← HN.out]; omega)
            obtain ⟨⟨a0, a1, a2⟩, -⟩ := bid_of HAQ.out
            obtain ⟨⟨z0, z1, z2⟩, hfz⟩ := bid_of HRQ.out
            go_wp2
            (try simp only [Exit.inBlock, Exit.then])
            refine bodyPost_ret (v := .tuple #[VB x, .int .i64 0]) ?_ rfl ⟨by rw [← HBE.out, HE0.out], ?_⟩
            · rw [results_cell_tmp rfl]
              go_simp
            · repeat (with_reducible refine Below.setCell ?_ (by rw [HR.out]; exact Nat.le_refl _) _)
              exact HBW2.out
          | false =>
            have HNE : Hid (∀ y ∈ L.take (k + 1), y ≠ Ty.best L) := fun y hy => by
              rw [Ty.take_at HXK.out] at hy
              rcases List.mem_append.1 hy with hy | hy
              · exact HP.out y hy
              · rw [List.mem_singleton.1 hy]
                intro e
                have h1 := HALL.out
                unfold Ty.allNo at h1
                rw [List.all_eq_false] at h1
                obtain ⟨z, hz, h2⟩ := h1
                have h3 := Ty.best_top hz
                rw [← e] at h3
                simp [h3] at h2
            go_wp2
            go_roundw
            case rel => exact ⟨k + 1, by omega, by go_num, HNE.out, HBW2.out, HRQ.out⟩
            case measure => simp [intOf]; omega
    · obtain rfl : n = k := by omega
      have HNIL : Hid (L = []) := by
        cases hL : L with
        | nil => rfl
        | cons y L2 =>
          exact absurd rfl (HP.out (Ty.best L) (by rw [HN.out, List.take_length]; exact Ty.best_mem (by rw [hL]; simp)))
      have HE : Hid (Ty.best L = (0, 0, 0) ∧ Ty.bestE L = 6) := by rw [HNIL.out]; exact ⟨rfl, rfl⟩
      obtain ⟨⟨z0, z1, z2⟩, hfz⟩ := bid_of HRR.out
      go_wp2
      (try simp only [Exit.inBlock, Exit.then])
      refine bodyPost_ret (v := .tuple #[VB (0, 0, 0), .int .i64 6]) ?_ rfl ⟨by rw [HE.out.1, HE.out.2], ?_⟩
      · rw [results_cell_tmp rfl]
        go_simp
      · repeat (with_reducible refine Below.setCell ?_ (by rw [HR.out]; exact Nat.le_refl _) _)
        exact HB.out
end Go.Proofs.Ytdcknokggjbebaa
