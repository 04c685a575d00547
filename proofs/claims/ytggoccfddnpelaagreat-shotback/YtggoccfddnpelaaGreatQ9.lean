/- OLists2, NIdx, FTwo, FRefB, SRef5, NDel, as one. -/
import Derived.Laws.CopyRow
import Derived.Test.YtggoccfddnpelaaGreatQ8
namespace Go.Proofs.YtggoccfddnpelaaGreat.Os
open Go.ChangeShapes Go.WideShapes Go.ChangeAt Go.RowKit Go.Deep
set_option maxRecDepth 100000
theorem hand_of {w : World} {A : Nat} {no gen : Int} (h : w.heap[A]? = some (BH no gen)) : w.cell? ⟨A, 0, none⟩ = some (.int .i64 no) ∧ w.cell? ⟨A, 1, none⟩ = some (.int .i64 gen) := by
  constructor <;> simp [World.cell?, h]
namespace Op
theorem held_in {l : List Opn} {no gen : Int} {k : Nat} {x : Opn} (h : l[k]? = some x) (hx : (x.2.2.1 == no && x.2.2.2 == gen) = true) : held (l.take (k + 1)) no gen = held (l.take k) no gen + 1 := by
  unfold held
  rw [take_at h, List.countP_append]
  simp only [List.countP_singleton, hx, if_true]
theorem held_out {l : List Opn} {no gen : Int} {k : Nat} {x : Opn} (h : l[k]? = some x) (hx : (x.2.2.1 == no && x.2.2.2 == gen) = false) : held (l.take (k + 1)) no gen = held (l.take k) no gen := by
  unfold held
  rw [take_at h, List.countP_append]
  simp [hx]
end Op
set_option maxHeartbeats 1000000 in
theorem held_any (v : Value) (l : List Opn) (no gen : Int) (w : World) (hv : AtW EO w v l) :
    Calls Tryz.prog 125 #[v, VH no gen] w fun e w' => e = .returned (.int .i64 (Op.held l no gen : Nat)) ∧ Below w.heap.size w w' := by
  obtain ⟨ao, cap, rfl, hm, hx⟩ := hv.open
  clear hv
  unfold maxLen at hm
  obtain ⟨n, hn⟩ : ∃ n, l.length = n := ⟨_, rfl⟩
  rw [hn] at hm ⊢
  have HN : Hid (l.length = n) := hn
  have HX : Hid (Over w ao l) := hx
  obtain ⟨r, hr⟩ : ∃ r, Op.held l no gen = r := ⟨_, rfl⟩
  rw [hr]
  have HR : Hid (Op.held l no gen = r) := hr
  obtain ⟨W, hW⟩ : ∃ W, W = w.alloc (BH no gen) := ⟨_, rfl⟩
  have HB0 : Hid (Below w.heap.size w W) := by show Below w.heap.size w W; rw [hW]; exact (Below.refl _ w).alloc (Nat.le_refl _) _
  have HA0 : Hid (W.heap[w.heap.size]? = some (BH no gen)) := by show W.heap[w.heap.size]? = some (BH no gen); rw [hW]; exact heap_alloc_new w (BH no gen)
  have hWs : W.heap.size = w.heap.size + 1 := by rw [hW]; simp
  clear hn hx hr
  go_enter Tryz.func125, Tryz.ntmps125
  go_wp2
  rw [← hW]
  clear hW
  go_loopw [5, 10] (fun t i wr => ∃ (k m : Nat), k ≤ n ∧ m ≤ k ∧ i = .int .i64 k ∧ t = .int .i64 m ∧ Hid (m = Op.held (l.take k) no gen) ∧ Hid (Below W.heap.size W wr)) (fun _ i _ => n - (intOf i).toNat)
  case atStart => exact ⟨0, 0, Nat.zero_le _, Nat.le_refl _, rfl, rfl, rfl, Below.refl _ _⟩
  case round =>
    obtain ⟨k, m, hk, hmk, rfl, rfl, HM, HB⟩ := hrel
    have hsz := HB.out.size
    have HB1 : Hid (Below w.heap.size w wr) := HB0.out.trans (HB.out.mono HB0.out.size)
    obtain ⟨z0, z1⟩ := hand_of ((HB.out.block _ (Array.getElem?_eq_some_iff.1 HA0.out).1).trans HA0.out)
    by_cases hlt : k < n
    · obtain ⟨x, hxk⟩ : ∃ x, l[k]? = some x := ⟨_, List.getElem?_eq_getElem (by rw [HN.out]; exact hlt)⟩
      have HXK : Hid (l[k]? = some x) := hxk
      obtain ⟨b, off, rfl, -, hB, hc⟩ := HX.out k x hxk
      obtain ⟨c0, c1, c2, c3⟩ := opn_cells HB1.out hB hc
      clear hc hxk
      rw [← cell_older (by omega) (BO x)] at z0 z1
      have hlt' : (k : Int) < (n : Int) := by omega
      cases g : (x.2.2.1 == no && x.2.2.2 == gen) with
      | true =>
        have HG : Hid (Op.held (l.take (k + 1)) no gen = Op.held (l.take k) no gen + 1) := Op.held_in HXK.out g
        have heq : ∀ w', (binOp .eql 55 (VH x.2.2.1 x.2.2.2) (VH no gen)).run Tryz.prog w' = .ok (.bool true) w' := fun w' => by rw [eql_hand, g]
        clear g
        go_wp2
        go_roundw
        case rel => exact ⟨k + 1, m + 1, by omega, by omega, by go_num, by go_num, by rw [HG.out, ← HM.out]; exact rfl, HB.out.alloc hsz _⟩
        case measure => simp [intOf]; omega
      | false =>
        have HG : Hid (Op.held (l.take (k + 1)) no gen = Op.held (l.take k) no gen) := Op.held_out HXK.out g
        have heq : ∀ w', (binOp .eql 55 (VH x.2.2.1 x.2.2.2) (VH no gen)).run Tryz.prog w' = .ok (.bool false) w' := fun w' => by rw [eql_hand, g]
        clear g
        go_wp2
        go_roundw
        case rel => exact ⟨k + 1, m, by omega, by omega, by go_num, rfl, by rw [HG.out, ← HM.out]; exact rfl, HB.out.alloc hsz _⟩
        case measure => simp [intOf]; omega
    · obtain rfl : k = n := by omega
      have H : Hid (r = m) := by
        have := HR.out
        have h2 := HM.out
        rw [← HN.out, List.take_length, this] at h2
        exact h2.symm
      go_wp2
      go_ret
      rw [H.out]
      exact ⟨rfl, HB1.out⟩
end Go.Proofs.YtggoccfddnpelaaGreat.Os
namespace Go.Proofs.YtggoccfddnpelaaGreat
open Go.ChangeShapes Go.WideShapes Go.ChangeAt Go.RowKit Go.Deep It
set_option maxRecDepth 100000
def atI {α : Type} (p : α → Bool) (l : List α) : Int := match l.findIdx? p with | some k => (k : Int) | none => -1
theorem atI_hit {α : Type} {p : α → Bool} {l : List α} {k : Nat} {x : α} (h : l[k]? = some x) (hp : p x = true) (hb : ∀ j y, j < k → l[j]? = some y → p y = false) : atI p l = k := by
  unfold atI
  have hk := (List.getElem?_eq_some_iff.1 h).1
  have hx := (List.getElem?_eq_some_iff.1 h).2
  have : l.findIdx? p = some k := by
    rw [List.findIdx?_eq_some_iff_getElem]
    refine ⟨hk, by rw [hx]; exact hp, fun j hj => ?_⟩
    have := hb j _ hj (List.getElem?_eq_getElem (by omega))
    simp [this]
  rw [this]
theorem atI_miss {α : Type} {p : α → Bool} {l : List α} (hb : ∀ j y, j < l.length → l[j]? = some y → p y = false) : atI p l = -1 := by
  unfold atI
  have : l.findIdx? p = none := by
    rw [List.findIdx?_eq_none_iff]
    intro x hx
    obtain ⟨j, hj⟩ := List.mem_iff_getElem?.1 hx
    exact hb j x (List.getElem?_eq_some_iff.1 hj).1 hj
  rw [this]
theorem atI_any {α : Type} (p : α → Bool) (l : List α) : decide (0 ≤ atI p l) = l.any p := by
  unfold atI
  cases h : l.findIdx? p with
  | none =>
    rw [List.findIdx?_eq_none_iff] at h
    have : l.any p = false := List.any_eq_false.2 fun x hx => by rw [h x hx]; simp
    rw [this]
    rfl
  | some k =>
    rw [List.findIdx?_eq_some_iff_getElem] at h
    obtain ⟨hk, hp, -⟩ := h
    have : l.any p = true := List.any_eq_true.2 ⟨_, List.getElem_mem hk, hp⟩
    rw [this]
    simp
set_option maxHeartbeats 2000000 in
theorem idxFi (v : Value) (l : List (Int × Int)) (p : (Int × Int) → Bool) (b : Nat) (w : World) (hv : AtW EH w v l)
    (hp : ∀ x ∈ l, ∀ V, Below w.heap.size w V → Calls Tryz.prog 122 #[.agg #[.int .i64 x.1, .int .i64 x.2], .pointer (some ⟨b, 0, none⟩)] V fun e w' => e = .returned (.bool (p x)) ∧ Below V.heap.size V w') :
    Calls Tryz.prog 127 #[v, VF 122 b] w fun e w' => e = .returned (.int .i64 (atI p l)) ∧ Below w.heap.size w w' := by
  obtain ⟨ao, cap, rfl, hm, hx⟩ := hv.open
  clear hv
  unfold maxLen at hm
  obtain ⟨n, hn⟩ : ∃ n, l.length = n := ⟨_, rfl⟩
  rw [hn] at hm ⊢
  have HN : Hid (l.length = n) := hn
  have HX : Hid (∀ i x, l[i]? = some x → ∃ b off, ao = some ⟨b, off, none⟩ ∧ True ∧ b < w.heap.size ∧ ∀ k u, (EH.cells x)[k]? = some u → w.cell? ⟨b, off + (i * EH.sz + k), none⟩ = some u) := hx
  have HPR : Hid (∀ x ∈ l, ∀ V, Below w.heap.size w V → Calls Tryz.prog 122 #[.agg #[.int .i64 x.1, .int .i64 x.2], .pointer (some ⟨b, 0, none⟩)] V fun e w' => e = .returned (.bool (p x)) ∧ Below V.heap.size V w') := hp
  clear hn hx hp
  go_enter Tryz.func127, Tryz.ntmps127
  go_wp2
  go_loopw [8] (fun i wr => ∃ k : Nat, k ≤ n ∧ i = .int .i64 k ∧ Hid (∀ j y, j < k → l[j]? = some y → p y = false) ∧ Hid (Below w.heap.size w wr)) (fun i _ => n - (intOf i).toNat)
  case atStart => exact ⟨0, Nat.zero_le _, rfl, fun j y hj => by omega, Below.refl _ _⟩
  case round =>
    obtain ⟨k, hk, rfl, HP, HB⟩ := hrel
    by_cases hlt : k < n
    · obtain ⟨x, hxk⟩ : ∃ x, l[k]? = some x := ⟨_, List.getElem?_eq_getElem (by rw [HN.out]; exact hlt)⟩
      have HXK : Hid (l[k]? = some x) := hxk
      obtain ⟨b2, off, rfl, -, hB, hcx⟩ := HX.out k x hxk
      have a := fun j u hj => (HB.out.cell (p := ⟨b2, off + (k * EH.sz + j), none⟩) hB).trans (hcx j u hj)
      have c0 : wr.cell? ⟨b2, off + k * 2, none⟩ = some (.int .i64 x.1) := a 0 _ rfl
      have c1 : wr.cell? ⟨b2, off + k * 2 + 1, none⟩ = some (.int .i64 x.2) := a 1 _ rfl
      have hsz := HB.out.size
      have HC := HPR.out x (List.mem_of_getElem? hxk)
      clear a hcx hxk
      have hlt' : (k : Int) < (n : Int) := by omega
      obtain ⟨r, hr⟩ : ∃ r, p x = r := ⟨_, rfl⟩
      go_wp2_with fail
      refine (HC _ HB.out).mono ?_
      rintro e w1 ⟨rfl, hb1⟩
      rw [hr]
      have HB1 : Hid (Below w.heap.size w w1) := HB.out.trans (hb1.mono hsz)
      clear hb1
      cases r with
      | true =>
        have HA : Hid (atI p l = k) := atI_hit HXK.out hr HP.out
        clear hr HC
        go_wp2
        go_ret
        rw [HA.out]
        exact ⟨rfl, HB1.out⟩
      | false =>
        have HP2 : Hid (∀ j y, j < k + 1 → l[j]? = some y → p y = false) := fun j y hj hy => by
          by_cases e : j = k
          · subst e
            rw [HXK.out] at hy
            cases hy
            exact hr
          · exact HP.out j y (by omega) hy
        clear hr HC
        go_wp2
        go_roundw
        case rel => exact ⟨k + 1, by omega, by go_num, HP2, HB1⟩
        case measure => simp [intOf]; omega
    · obtain rfl : k = n := by omega
      have HA : Hid (atI p l = -1) := atI_miss fun j y hj => HP.out j y (by rw [← HN.out]; exact hj)
      go_wp2
      go_ret
      rw [HA.out]
      exact ⟨rfl, HB.out⟩
set_option maxHeartbeats 2000000 in
theorem idxUn (v : Value) (l : List (Int × Int)) (p : (Int × Int) → Bool) (b : Nat) (w : World) (hv : AtW EH w v l)
    (hp : ∀ x ∈ l, ∀ V, Below w.heap.size w V → Calls Tryz.prog 95 #[.agg #[.int .i64 x.1, .int .i64 x.2], .pointer (some ⟨b, 0, none⟩)] V fun e w' => e = .returned (.bool (p x)) ∧ Below V.heap.size V w') :
    Calls Tryz.prog 127 #[v, VF 95 b] w fun e w' => e = .returned (.int .i64 (atI p l)) ∧ Below w.heap.size w w' := by
  obtain ⟨ao, cap, rfl, hm, hx⟩ := hv.open
  clear hv
  unfold maxLen at hm
  obtain ⟨n, hn⟩ : ∃ n, l.length = n := ⟨_, rfl⟩
  rw [hn] at hm ⊢
  have HN : Hid (l.length = n) := hn
  have HX : Hid (∀ i x, l[i]? = some x → ∃ b off, ao = some ⟨b, off, none⟩ ∧ True ∧ b < w.heap.size ∧ ∀ k u, (EH.cells x)[k]? = some u → w.cell? ⟨b, off + (i * EH.sz + k), none⟩ = some u) := hx
  have HPR : Hid (∀ x ∈ l, ∀ V, Below w.heap.size w V → Calls Tryz.prog 95 #[.agg #[.int .i64 x.1, .int .i64 x.2], .pointer (some ⟨b, 0, none⟩)] V fun e w' => e = .returned (.bool (p x)) ∧ Below V.heap.size V w') := hp
  clear hn hx hp
  go_enter Tryz.func127, Tryz.ntmps127
  go_wp2
  go_loopw [8] (fun i wr => ∃ k : Nat, k ≤ n ∧ i = .int .i64 k ∧ Hid (∀ j y, j < k → l[j]? = some y → p y = false) ∧ Hid (Below w.heap.size w wr)) (fun i _ => n - (intOf i).toNat)
  case atStart => exact ⟨0, Nat.zero_le _, rfl, fun j y hj => by omega, Below.refl _ _⟩
  case round =>
    obtain ⟨k, hk, rfl, HP, HB⟩ := hrel
    by_cases hlt : k < n
    · obtain ⟨x, hxk⟩ : ∃ x, l[k]? = some x := ⟨_, List.getElem?_eq_getElem (by rw [HN.out]; exact hlt)⟩
      have HXK : Hid (l[k]? = some x) := hxk
      obtain ⟨b2, off, rfl, -, hB, hcx⟩ := HX.out k x hxk
      have a := fun j u hj => (HB.out.cell (p := ⟨b2, off + (k * EH.sz + j), none⟩) hB).trans (hcx j u hj)
      have c0 : wr.cell? ⟨b2, off + k * 2, none⟩ = some (.int .i64 x.1) := a 0 _ rfl
      have c1 : wr.cell? ⟨b2, off + k * 2 + 1, none⟩ = some (.int .i64 x.2) := a 1 _ rfl
      have hsz := HB.out.size
      have HC := HPR.out x (List.mem_of_getElem? hxk)
      clear a hcx hxk
      have hlt' : (k : Int) < (n : Int) := by omega
      obtain ⟨r, hr⟩ : ∃ r, p x = r := ⟨_, rfl⟩
      go_wp2_with fail
      refine (HC _ HB.out).mono ?_
      rintro e w1 ⟨rfl, hb1⟩
      rw [hr]
      have HB1 : Hid (Below w.heap.size w w1) := HB.out.trans (hb1.mono hsz)
      clear hb1
      cases r with
      | true =>
        have HA : Hid (atI p l = k) := atI_hit HXK.out hr HP.out
        clear hr HC
        go_wp2
        go_ret
        rw [HA.out]
        exact ⟨rfl, HB1.out⟩
      | false =>
        have HP2 : Hid (∀ j y, j < k + 1 → l[j]? = some y → p y = false) := fun j y hj hy => by
          by_cases e : j = k
          · subst e
            rw [HXK.out] at hy
            cases hy
            exact hr
          · exact HP.out j y (by omega) hy
        clear hr HC
        go_wp2
        go_roundw
        case rel => exact ⟨k + 1, by omega, by go_num, HP2, HB1⟩
        case measure => simp [intOf]; omega
    · obtain rfl : k = n := by omega
      have HA : Hid (atI p l = -1) := atI_miss fun j y hj => HP.out j y (by rw [← HN.out]; exact hj)
      go_wp2
      go_ret
      rw [HA.out]
      exact ⟨rfl, HB.out⟩
set_option maxHeartbeats 1000000 in
theorem conUn (v : Value) (l : List (Int × Int)) (p : (Int × Int) → Bool) (b : Nat) (w : World) (hv : AtW EH w v l)
    (hp : ∀ x ∈ l, ∀ V, Below w.heap.size w V → Calls Tryz.prog 95 #[.agg #[.int .i64 x.1, .int .i64 x.2], .pointer (some ⟨b, 0, none⟩)] V fun e w' => e = .returned (.bool (p x)) ∧ Below V.heap.size V w') :
    Calls Tryz.prog 98 #[v, VF 95 b] w fun e w' => e = .returned (.bool (l.any p)) ∧ Below w.heap.size w w' := by
  have HC : Hid (∀ V, w = V → Calls Tryz.prog 127 #[v, VF 95 b] V fun e w' => e = .returned (.int .i64 (atI p l)) ∧ Below w.heap.size w w') := fun V h => by subst h; exact idxUn v l p b w hv hp
  obtain ⟨ao, cap, rfl, hm, hx⟩ := hv.open
  obtain ⟨r, hr⟩ : ∃ r, atI p l = r := ⟨_, rfl⟩
  rw [← atI_any, hr]
  rw [hr] at HC
  obtain ⟨n, hn⟩ : ∃ n, l.length = n := ⟨_, rfl⟩
  rw [hn] at HC ⊢
  clear hx hv hp hr hm hn
  go_enter Tryz.func98, Tryz.ntmps98
  go_wp2_with fail
  refine (HC.out _ rfl).mono ?_
  rintro e w1 ⟨rfl, hb1⟩
  have HB1 : Hid (Below w.heap.size w w1) := hb1
  clear hb1 HC
  go_wp2
  go_ret
  exact ⟨rfl, HB1.out⟩
set_option maxHeartbeats 2000000 in
theorem idxNo (v : Value) (l : List Os.Opn) (p : Os.Opn → Bool) (b : Nat) (w : World) (hv : AtW Os.EO w v l)
    (hp : ∀ x ∈ l, ∀ V, Below w.heap.size w V → Calls Tryz.prog 93 #[.agg #[.int .i64 x.1, .int .i64 x.2.1, .int .i64 x.2.2.1, .int .i64 x.2.2.2], .pointer (some ⟨b, 0, none⟩)] V fun e w' => e = .returned (.bool (p x)) ∧ Below V.heap.size V w') :
    Calls Tryz.prog 126 #[v, VF 93 b] w fun e w' => e = .returned (.int .i64 (atI p l)) ∧ Below w.heap.size w w' := by
  obtain ⟨ao, cap, rfl, hm, hx⟩ := hv.open
  clear hv
  unfold maxLen at hm
  obtain ⟨n, hn⟩ : ∃ n, l.length = n := ⟨_, rfl⟩
  rw [hn] at hm ⊢
  have HN : Hid (l.length = n) := hn
  have HX : Hid (∀ i x, l[i]? = some x → ∃ b off, ao = some ⟨b, off, none⟩ ∧ True ∧ b < w.heap.size ∧ ∀ k u, (Os.EO.cells x)[k]? = some u → w.cell? ⟨b, off + (i * Os.EO.sz + k), none⟩ = some u) := hx
  have HPR : Hid (∀ x ∈ l, ∀ V, Below w.heap.size w V → Calls Tryz.prog 93 #[.agg #[.int .i64 x.1, .int .i64 x.2.1, .int .i64 x.2.2.1, .int .i64 x.2.2.2], .pointer (some ⟨b, 0, none⟩)] V fun e w' => e = .returned (.bool (p x)) ∧ Below V.heap.size V w') := hp
  clear hn hx hp
  go_enter Tryz.func126, Tryz.ntmps126
  go_wp2
  go_loopw [8] (fun i wr => ∃ k : Nat, k ≤ n ∧ i = .int .i64 k ∧ Hid (∀ j y, j < k → l[j]? = some y → p y = false) ∧ Hid (Below w.heap.size w wr)) (fun i _ => n - (intOf i).toNat)
  case atStart => exact ⟨0, Nat.zero_le _, rfl, fun j y hj => by omega, Below.refl _ _⟩
  case round =>
    obtain ⟨k, hk, rfl, HP, HB⟩ := hrel
    by_cases hlt : k < n
    · obtain ⟨x, hxk⟩ : ∃ x, l[k]? = some x := ⟨_, List.getElem?_eq_getElem (by rw [HN.out]; exact hlt)⟩
      have HXK : Hid (l[k]? = some x) := hxk
      obtain ⟨b2, off, rfl, -, hB, hcx⟩ := HX.out k x hxk
      have a := fun j u hj => (HB.out.cell (p := ⟨b2, off + (k * Os.EO.sz + j), none⟩) hB).trans (hcx j u hj)
      have c0 : wr.cell? ⟨b2, off + k * 4, none⟩ = some (.int .i64 x.1) := a 0 _ rfl
      have c1 : wr.cell? ⟨b2, off + k * 4 + 1, none⟩ = some (.int .i64 x.2.1) := a 1 _ rfl
      have c2 : wr.cell? ⟨b2, off + k * 4 + 2, none⟩ = some (.int .i64 x.2.2.1) := a 2 _ rfl
      have c3 : wr.cell? ⟨b2, off + k * 4 + 3, none⟩ = some (.int .i64 x.2.2.2) := a 3 _ rfl
      have hsz := HB.out.size
      have HC := HPR.out x (List.mem_of_getElem? hxk)
      clear a hcx hxk
      have hlt' : (k : Int) < (n : Int) := by omega
      obtain ⟨r, hr⟩ : ∃ r, p x = r := ⟨_, rfl⟩
      go_wp2_with fail
      refine (HC _ HB.out).mono ?_
      rintro e w1 ⟨rfl, hb1⟩
      rw [hr]
      have HB1 : Hid (Below w.heap.size w w1) := HB.out.trans (hb1.mono hsz)
      clear hb1
      cases r with
      | true =>
        have HA : Hid (atI p l = k) := atI_hit HXK.out hr HP.out
        clear hr HC
        go_wp2
        go_ret
        rw [HA.out]
        exact ⟨rfl, HB1.out⟩
      | false =>
        have HP2 : Hid (∀ j y, j < k + 1 → l[j]? = some y → p y = false) := fun j y hj hy => by
          by_cases e : j = k
          · subst e
            rw [HXK.out] at hy
            cases hy
            exact hr
          · exact HP.out j y (by omega) hy
        clear hr HC
        go_wp2
        go_roundw
        case rel => exact ⟨k + 1, by omega, by go_num, HP2, HB1⟩
        case measure => simp [intOf]; omega
    · obtain rfl : k = n := by omega
      have HA : Hid (atI p l = -1) := atI_miss fun j y hj => HP.out j y (by rw [← HN.out]; exact hj)
      go_wp2
      go_ret
      rw [HA.out]
      exact ⟨rfl, HB.out⟩
set_option maxHeartbeats 1000000 in
theorem conNo (v : Value) (l : List Os.Opn) (p : Os.Opn → Bool) (b : Nat) (w : World) (hv : AtW Os.EO w v l)
    (hp : ∀ x ∈ l, ∀ V, Below w.heap.size w V → Calls Tryz.prog 93 #[.agg #[.int .i64 x.1, .int .i64 x.2.1, .int .i64 x.2.2.1, .int .i64 x.2.2.2], .pointer (some ⟨b, 0, none⟩)] V fun e w' => e = .returned (.bool (p x)) ∧ Below V.heap.size V w') :
    Calls Tryz.prog 97 #[v, VF 93 b] w fun e w' => e = .returned (.bool (l.any p)) ∧ Below w.heap.size w w' := by
  have HC : Hid (∀ V, w = V → Calls Tryz.prog 126 #[v, VF 93 b] V fun e w' => e = .returned (.int .i64 (atI p l)) ∧ Below w.heap.size w w') := fun V h => by subst h; exact idxNo v l p b w hv hp
  obtain ⟨ao, cap, rfl, hm, hx⟩ := hv.open
  obtain ⟨r, hr⟩ : ∃ r, atI p l = r := ⟨_, rfl⟩
  rw [← atI_any, hr]
  rw [hr] at HC
  obtain ⟨n, hn⟩ : ∃ n, l.length = n := ⟨_, rfl⟩
  rw [hn] at HC ⊢
  clear hx hv hp hr hm hn
  go_enter Tryz.func97, Tryz.ntmps97
  go_wp2_with fail
  refine (HC.out _ rfl).mono ?_
  rintro e w1 ⟨rfl, hb1⟩
  have HB1 : Hid (Below w.heap.size w w1) := hb1
  clear hb1 HC
  go_wp2
  go_ret
  exact ⟨rfl, HB1.out⟩
set_option maxHeartbeats 2000000 in
theorem idxLa (v : Value) (l : List Rw) (p : Rw → Bool) (b : Nat) (w : World) (hv : AtW EI w v l)
    (hp : ∀ x ∈ l, ∀ V, Below w.heap.size w V → Calls Tryz.prog 100 #[VI x, .pointer (some ⟨b, 0, none⟩)] V fun e w' => e = .returned (.bool (p x)) ∧ Below V.heap.size V w') :
    Calls Tryz.prog 128 #[v, VF 100 b] w fun e w' => e = .returned (.int .i64 (atI p l)) ∧ Below w.heap.size w w' := by
  obtain ⟨ao, cap, rfl, hm, hx⟩ := hv.open
  clear hv
  unfold maxLen at hm
  obtain ⟨n, hn⟩ : ∃ n, l.length = n := ⟨_, rfl⟩
  rw [hn] at hm ⊢
  have HN : Hid (l.length = n) := hn
  have HX : Hid (∀ i x, l[i]? = some x → ∃ b off, ao = some ⟨b, off, none⟩ ∧ True ∧ b < w.heap.size ∧ ∀ k u, (EI.cells x)[k]? = some u → w.cell? ⟨b, off + (i * EI.sz + k), none⟩ = some u) := hx
  have HPR : Hid (∀ x ∈ l, ∀ V, Below w.heap.size w V → Calls Tryz.prog 100 #[VI x, .pointer (some ⟨b, 0, none⟩)] V fun e w' => e = .returned (.bool (p x)) ∧ Below V.heap.size V w') := hp
  clear hn hx hp
  go_enter Tryz.func128, Tryz.ntmps128
  go_wp2
  go_loopw [8] (fun i wr => ∃ k : Nat, k ≤ n ∧ i = .int .i64 k ∧ Hid (∀ j y, j < k → l[j]? = some y → p y = false) ∧ Hid (Below w.heap.size w wr)) (fun i _ => n - (intOf i).toNat)
  case atStart => exact ⟨0, Nat.zero_le _, rfl, fun j y hj => by omega, Below.refl _ _⟩
  case round =>
    obtain ⟨k, hk, rfl, HP, HB⟩ := hrel
    by_cases hlt : k < n
    · obtain ⟨x, hxk⟩ : ∃ x, l[k]? = some x := ⟨_, List.getElem?_eq_getElem (by rw [HN.out]; exact hlt)⟩
      have HXK : Hid (l[k]? = some x) := hxk
      obtain ⟨b2, off, rfl, -, hB, hcx⟩ := HX.out k x hxk
      have a := fun j u hj => (HB.out.cell (p := ⟨b2, off + (k * EI.sz + j), none⟩) hB).trans (hcx j u hj)
      have c0 : wr.cell? ⟨b2, off + k * 8, none⟩ = some (.int .i64 x.i.gen) := a 0 _ rfl
      have c1 : wr.cell? ⟨b2, off + k * 8 + 1, none⟩ = some (.int .i64 x.i.kind) := a 1 _ rfl
      have c2 : wr.cell? ⟨b2, off + k * 8 + 2, none⟩ = some (.int .i64 x.i.links) := a 2 _ rfl
      have c3 : wr.cell? ⟨b2, off + k * 8 + 3, none⟩ = some (.int .i64 x.i.size) := a 3 _ rfl
      have c4 : wr.cell? ⟨b2, off + k * 8 + 4, none⟩ = some (.int .i64 x.i.stamp) := a 4 _ rfl
      have c5 : wr.cell? ⟨b2, off + k * 8 + 5, none⟩ = some (.slice x.rp x.rn x.rc) := a 5 _ rfl
      have c6 : wr.cell? ⟨b2, off + k * 8 + 6, none⟩ = some (.slice x.ep x.en x.ec) := a 6 _ rfl
      have c7 : wr.cell? ⟨b2, off + k * 8 + 7, none⟩ = some (.int .i64 x.i.next) := a 7 _ rfl
      have hsz := HB.out.size
      have HC := HPR.out x (List.mem_of_getElem? hxk)
      clear a hcx hxk
      have hlt' : (k : Int) < (n : Int) := by omega
      obtain ⟨r, hr⟩ : ∃ r, p x = r := ⟨_, rfl⟩
      go_wp2_with fail
      refine (HC _ HB.out).mono ?_
      rintro e w1 ⟨rfl, hb1⟩
      rw [hr]
      have HB1 : Hid (Below w.heap.size w w1) := HB.out.trans (hb1.mono hsz)
      clear hb1
      cases r with
      | true =>
        have HA : Hid (atI p l = k) := atI_hit HXK.out hr HP.out
        clear hr HC
        go_wp2
        go_ret
        rw [HA.out]
        exact ⟨rfl, HB1.out⟩
      | false =>
        have HP2 : Hid (∀ j y, j < k + 1 → l[j]? = some y → p y = false) := fun j y hj hy => by
          by_cases e : j = k
          · subst e
            rw [HXK.out] at hy
            cases hy
            exact hr
          · exact HP.out j y (by omega) hy
        clear hr HC
        go_wp2
        go_roundw
        case rel => exact ⟨k + 1, by omega, by go_num, HP2, HB1⟩
        case measure => simp [intOf]; omega
    · obtain rfl : k = n := by omega
      have HA : Hid (atI p l = -1) := atI_miss fun j y hj => HP.out j y (by rw [← HN.out]; exact hj)
      go_wp2
      go_ret
      rw [HA.out]
      exact ⟨rfl, HB.out⟩
set_option maxHeartbeats 1000000 in
theorem conLa (v : Value) (l : List Rw) (p : Rw → Bool) (b : Nat) (w : World) (hv : AtW EI w v l)
    (hp : ∀ x ∈ l, ∀ V, Below w.heap.size w V → Calls Tryz.prog 100 #[VI x, .pointer (some ⟨b, 0, none⟩)] V fun e w' => e = .returned (.bool (p x)) ∧ Below V.heap.size V w') :
    Calls Tryz.prog 102 #[v, VF 100 b] w fun e w' => e = .returned (.bool (l.any p)) ∧ Below w.heap.size w w' := by
  have HC : Hid (∀ V, w = V → Calls Tryz.prog 128 #[v, VF 100 b] V fun e w' => e = .returned (.int .i64 (atI p l)) ∧ Below w.heap.size w w') := fun V h => by subst h; exact idxLa v l p b w hv hp
  obtain ⟨ao, cap, rfl, hm, hx⟩ := hv.open
  obtain ⟨r, hr⟩ : ∃ r, atI p l = r := ⟨_, rfl⟩
  rw [← atI_any, hr]
  rw [hr] at HC
  obtain ⟨n, hn⟩ : ∃ n, l.length = n := ⟨_, rfl⟩
  rw [hn] at HC ⊢
  clear hx hv hp hr hm hn
  go_enter Tryz.func102, Tryz.ntmps102
  go_wp2_with fail
  refine (HC.out _ rfl).mono ?_
  rintro e w1 ⟨rfl, hb1⟩
  have HB1 : Hid (Below w.heap.size w w1) := hb1
  clear hb1 HC
  go_wp2
  go_ret
  exact ⟨rfl, HB1.out⟩
end Go.Proofs.YtggoccfddnpelaaGreat
namespace Go.Proofs.YtggoccfddnpelaaGreat
open Go.ChangeShapes Go.WideShapes Go.ChangeAt Go.RowKit Go.Deep
set_option maxRecDepth 100000
namespace Fo
abbrev sa : ByteArray := ⟨#[97]⟩
abbrev sb : ByteArray := ⟨#[98]⟩
abbrev ea : Ent := (sa, 1, 1, 1)
abbrev eb : Ent := (sb, 2, 1, 1)
theorem bb : called sb eb = true := by simp [called]
end Fo
theorem small (x : Ent) (l : List Ent) (h : x.1.size ≤ 32 ∧ ∀ y ∈ l, y.1.size ≤ 32) : ∀ y ∈ x :: l, y.1.size ≤ maxLen := fun y hy => by
  rcases List.mem_cons.1 hy with rfl | hy
  · exact Nat.le_trans h.1 (by decide)
  · exact Nat.le_trans (h.2 y hy) (by decide)
namespace Fo
end Fo
theorem below_drewN {B : Nat} {w w' : World} (h : Below B w w') (q : Nat) : Below B w (w'.drewN q) := ⟨h.os, h.tape, h.output, h.size, h.block⟩
end Go.Proofs.YtggoccfddnpelaaGreat
namespace Go.Proofs.YtggoccfddnpelaaGreat
open Go.ChangeShapes Go.WideShapes Go.ChangeAt Go.RowKit Go.Deep It
set_option maxRecDepth 100000
theorem Enc.flat_cell {α : Type} (E : Enc α) {l : List α} {k j : Nat} {x x' : α} {u : Value} (hk : l[k]? = some x) (hj : j < E.sz) (hc : E.cells x' = (E.cells x).set j u) : (E.flat l).set (k * E.sz + j) u = E.flat (l.set k x') := by
  have hlt := (List.getElem?_eq_some_iff.1 hk).1
  have h1 := E.flat_set l k x hlt
  have h2 := E.flat_set l k x' hlt
  have hx : l.set k x = l := by
    have : l[k] = x := (List.getElem?_eq_some_iff.1 hk).2
    rw [← this]
    exact List.set_getElem_self hlt
  rw [hx] at h1
  have hlen : ((E.flat l).take (k * E.sz)).length = k * E.sz := by
    rw [List.length_take, E.flat_length]
    exact Nat.min_eq_left (Nat.mul_le_mul_right _ (by omega))
  have hcl : (E.cells x).length = E.sz := E.len x
  rw [← h2, hc]
  generalize (E.flat l).take (k * E.sz) = A at *
  generalize (E.flat l).drop (k * E.sz + E.sz) = D at *
  rw [← h1, List.append_assoc, List.append_assoc, List.set_append_right _ _ (by omega), hlen, Nat.add_sub_cancel_left, List.set_append_left _ _ (by omega)]
theorem Row.cell {α : Type} {E : Enc α} {w : World} {B : Nat} {e : TypeId} {g n cap : Nat} {ls : List α} {k j : Nat} {x x' : α} {u : Value} (h : Row E w B e (.slice (some ⟨g, 0, none⟩) n cap) ls) (hk : ls[k]? = some x) (hj : j < E.sz) (hc : E.cells x' = (E.cells x).set j u) :
    Row E (w.setCell ⟨g, k * E.sz + j, none⟩ u) B e (.slice (some ⟨g, 0, none⟩) n cap) (ls.set k x') := by
  rcases h with ⟨h, _⟩ | ⟨g', cap', cur, hv, hB, hh, h1, h2, h3, h4⟩
  · cases h
  · simp only [Value.slice.injEq, Option.some.injEq, Addr.mk.injEq] at hv
    obtain ⟨⟨rfl, -, -⟩, rfl, rfl⟩ := hv
    refine .inr ⟨g, cap, cur.setIfInBounds (k * E.sz + j) u, by rw [List.length_set], hB, ?_, by rw [List.length_set]; exact h1, h2, by rw [Array.size_setIfInBounds]; exact h3, ?_⟩
    · simp [World.setCell, Array.getElem?_modify, hh]
    · rw [List.length_set, Array.toList_setIfInBounds, List.take_set, h4]
      exact E.flat_cell hk hj hc
namespace Nf
/-- How a row stands ahead of place j: what stays of those ahead lies in front, those from j on are as they were. -/
structure Del (p : Int × Int → Bool) (U R : List (Int × Int)) (i j : Nat) : Prop where
  len : R.length = U.length
  front : R.take i = (U.take j).filter (fun x => !p x)
  back : ∀ t, j ≤ t → R[t]? = U[t]?
  lt : i < j
theorem Del.ilen {p : Int × Int → Bool} {U R : List (Int × Int)} {i j : Nat} (h : Del p U R i j) (hj : j ≤ U.length) : ((U.take j).filter (fun x => !p x)).length = i := by
  rw [← h.front, List.length_take, h.len]
  have := h.lt
  omega
theorem Del.first {p : Int × Int → Bool} {U : List (Int × Int)} {k : Nat} {x : Int × Int} (hx : U[k]? = some x) (hp : p x = true) (hb : ∀ j y, j < k → U[j]? = some y → p y = false) : Del p U U k (k + 1) := by
  refine ⟨rfl, ?_, fun _ _ => rfl, Nat.lt_succ_self _⟩
  rw [List.take_add_one, hx, List.filter_append]
  have h1 : (U.take k).filter (fun x => !p x) = U.take k := List.filter_eq_self.2 fun y hy => by
    obtain ⟨j, hj⟩ := List.mem_iff_getElem?.1 hy
    rw [List.getElem?_take] at hj
    split at hj
    · rename_i hlt
      rw [hb j y hlt hj]
      rfl
    · cases hj
  rw [h1]
  simp [hp]
theorem Del.gone {p : Int × Int → Bool} {U R : List (Int × Int)} {i j : Nat} {x : Int × Int} (h : Del p U R i j) (hx : U[j]? = some x) (hp : p x = true) : Del p U R i (j + 1) := by
  refine ⟨h.len, ?_, fun t ht => h.back t (by omega), by have := h.lt; omega⟩
  rw [List.take_add_one, hx, List.filter_append, ← h.front]
  simp [hp]
theorem Del.kept {p : Int × Int → Bool} {U R : List (Int × Int)} {i j : Nat} {x : Int × Int} (h : Del p U R i j) (hx : U[j]? = some x) (hp : p x = false) : Del p U (R.set i x) (i + 1) (j + 1) := by
  have hj := (List.getElem?_eq_some_iff.1 hx).1
  have hlt := h.lt
  have hl := h.len
  refine ⟨by rw [List.length_set]; exact hl, ?_, fun t ht => ?_, by omega⟩
  · have hi : i < R.length := by omega
    have e1 : (R.set i x).take (i + 1) = R.take i ++ [x] := by
      rw [List.take_add_one, List.getElem?_set_self hi, List.take_set, List.set_eq_of_length_le (by rw [List.length_take]; omega)]
      rfl
    have e2 : (U.take (j + 1)).filter (fun x => !p x) = (U.take j).filter (fun x => !p x) ++ [x] := by
      rw [List.take_add_one, hx, List.filter_append]
      simp [hp]
    rw [e1, e2, h.front]
  · rw [List.getElem?_set_ne (by omega)]
    exact h.back t (by omega)
end Nf
theorem below_row {B : Nat} {w w' : World} (h : Below B w w') {g : Nat} (hg : B ≤ g) (cs : Array Value) : Below B w (w'.setRow g cs) := by
  refine ⟨h.os, h.tape, h.output, by simpa [World.setRow] using h.size, fun k hk => ?_⟩
  rw [← h.block k hk]
  have hne : g ≠ k := by omega
  simp [World.setRow, Array.getElem?_modify, hne]
theorem clear_two (w : World) (g o n c : Nat) (ty : TypeId) (cur : Array Value) (hn : 0 < n) (hg : w.heap[g]? = some (.cells cur 55 (0, 0))) (ho : o + n * 2 ≤ cur.size) :
    (Builtin.clear_ #[142] ty #[.slice (some ⟨g, o, none⟩) n c]).run Tryz.prog w = .ok (.tuple #[]) (w.setRow g (cur.toList.take o ++ List.replicate (n * 2) (Value.int .i64 0) ++ cur.toList.drop (o + n * 2)).toArray) := by
  have hz : ∀ w, (zeroValue 55).run Tryz.prog w = .ok (.agg #[.int .i64 0, .int .i64 0]) w := fun w => Tryz.zeroValue55 w
  have hzc : (Builtin.zeroCells (Value.agg #[.int .i64 0, .int .i64 0]).cells n).toList = List.replicate (n * 2) (Value.int .i64 0) := by
    simp [Builtin.zeroCells, Value.cells]
    apply List.ext_getElem
    · simp
    · intro i h1 h2
      have : i % 2 = 0 ∨ i % 2 = 1 := by omega
      rcases this with h | h <;> simp [h]
  have hst := run_storeCells_at (P := Tryz.prog) g o 55 (List.replicate (n * 2) (Value.int .i64 0)) 0 cur w hg (by simpa using ho) (by intro v hv; rw [List.eq_of_mem_replicate hv]; rfl)
  simp only [Nat.add_zero, List.length_replicate] at hst
  obtain ⟨m, rfl⟩ : ∃ m, n = m + 1 := ⟨n - 1, by omega⟩
  simp [Builtin.clear_, run_underlying Tryz.underlying142, hz, hzc, hst]
set_option maxHeartbeats 4000000 in
theorem del_any (v : Value) (U : List (Int × Int)) (p : Int × Int → Bool) (b B : Nat) (w : World) (hv : Row EH w B 55 v U) (hB : B ≤ w.heap.size) (hlen : U.length ≤ 1000)
    (hp : ∀ x ∈ U, ∀ V, Below B w V → Calls Tryz.prog 122 #[.agg #[.int .i64 x.1, .int .i64 x.2], .pointer (some ⟨b, 0, none⟩)] V fun e w' => e = .returned (.bool (p x)) ∧ Below V.heap.size V w') :
    Calls Tryz.prog 123 #[v, VF 122 b] w fun e w' => ∃ u, e = .returned u ∧ AtW EH w' u (U.filter fun x => !p x) ∧ Below B w w' := by
  have HV : Hid (Row EH w B 55 v U) := hv
  have HP : Hid (∀ x ∈ U, ∀ V, Below B w V → Calls Tryz.prog 122 #[.agg #[.int .i64 x.1, .int .i64 x.2], .pointer (some ⟨b, 0, none⟩)] V fun e w' => e = .returned (.bool (p x)) ∧ Below V.heap.size V w') := hp
  have HI : Hid (∀ V, w = V → Calls Tryz.prog 127 #[v, VF 122 b] V fun e w' => e = .returned (.int .i64 (atI p U)) ∧ Below w.heap.size w w') := fun V h => by
    subst h
    exact idxFi v U p b w hv.at.wide fun x hx V hb => hp x hx V (hb.mono hB)
  obtain ⟨ao, cap, hsl⟩ := hv.slice
  obtain ⟨n, hn⟩ : ∃ n, U.length = n := ⟨_, rfl⟩
  have HN : Hid (U.length = n) := hn
  rw [hn] at hsl hlen
  subst hsl
  obtain ⟨r, hr⟩ : ∃ r, atI p U = r := ⟨_, rfl⟩
  rw [hr] at HI
  have HR : Hid (atI p U = r) := hr
  clear hv hp hn hr
  go_enter Tryz.func123, Tryz.ntmps123
  go_wp2_with fail
  refine (HI.out _ rfl).mono ?_
  rintro e w1 ⟨rfl, hb1⟩
  have HB1 : Hid (Below w.heap.size w w1) := hb1
  have HV1 : Hid (Row EH w1 B 55 (.slice ao n cap) U) := HV.out.up hb1
  clear hb1 HI
  by_cases hr1 : r = -1
  · subst hr1
    have hno : ∀ x ∈ U, p x = false := by
      have h := HR.out
      unfold atI at h
      cases hf : U.findIdx? p with
      | none => exact List.findIdx?_eq_none_iff.1 hf
      | some k =>
        rw [hf] at h
        have h2 : (k : Int) = -1 := h
        omega
    have HF : Hid (AtW EH w1 (.slice ao n cap) (U.filter fun x => !p x)) := by
      show AtW EH w1 (.slice ao n cap) (U.filter fun x => !p x)
      rw [List.filter_eq_self.2 fun x hx => by rw [hno x hx]; rfl]
      exact HV1.out.at.wide
    clear hno
    go_wp2
    go_ret
    exact ⟨_, rfl, HF.out, HB1.out.mono hB⟩
  · obtain ⟨k, x, hrk, hkx, hpx, hbx⟩ : ∃ (k : Nat) (x : Int × Int), r = k ∧ U[k]? = some x ∧ p x = true ∧ ∀ j y, j < k → U[j]? = some y → p y = false := by
      have h := HR.out
      unfold atI at h
      cases hf : U.findIdx? p with
      | none =>
        rw [hf] at h
        exact absurd h.symm hr1
      | some k =>
        rw [hf] at h
        rw [List.findIdx?_eq_some_iff_getElem] at hf
        obtain ⟨hk, hpk, hbk⟩ := hf
        refine ⟨k, U[k], h.symm, List.getElem?_eq_getElem hk, hpk, fun j y hj hy => ?_⟩
        have h1 := hbk j hj
        rw [List.getElem?_eq_getElem (by omega)] at hy
        cases hy
        simpa using h1
    subst hrk
    have HD0 : Hid (Nf.Del p U U k (k + 1)) := Nf.Del.first hkx hpx hbx
    have hkn : k < n := by rw [← HN.out]; exact (List.getElem?_eq_some_iff.1 hkx).1
    have tr : ((k : Int) == -1) = false := by
      apply beq_eq_false_iff_ne.2
      omega
    obtain ⟨g, hg⟩ : ∃ g, ao = some ⟨g, 0, none⟩ := by
      rcases HV1.out with ⟨h, _⟩ | ⟨g, cap', cur, h, _⟩
      · simp only [Value.slice.injEq] at h
        omega
      · simp only [Value.slice.injEq] at h
        exact ⟨g, h.1⟩
    subst hg
    have hgB : B ≤ g := (HV1.out.lt g rfl).1
    clear hr1 hkx hpx hbx HR
    go_wp2
    go_loopw [5, 6] (fun iv jv wr => ∃ (i j : Nat) (R : List (Int × Int)), i < n ∧ j ≤ n ∧ iv = .int .i64 i ∧ jv = .int .i64 j ∧ Hid (Nf.Del p U R i j) ∧ Hid (Row EH wr B 55 (.slice (some ⟨g, 0, none⟩) n cap) R) ∧ Hid (Below B w wr)) (fun _ jv _ => n - (intOf jv).toNat)
    case atStart => exact ⟨k, k + 1, U, hkn, by omega, rfl, by go_num, HD0, HV1, HB1.out.mono hB⟩
    case round =>
      obtain ⟨i, j, R, hi, hj, rfl, rfl, HD, HRW, HBR⟩ := hrel
      have hRl : R.length = n := HD.out.len.trans HN.out
      have hgl : g < wr.heap.size := (HRW.out.lt g rfl).2
      have hBs : B ≤ wr.heap.size := by omega
      by_cases hlt : j < n
      · obtain ⟨y, hy⟩ : ∃ y, U[j]? = some y := ⟨_, List.getElem?_eq_getElem (by rw [HN.out]; exact hlt)⟩
        have hyR : R[j]? = some y := (HD.out.back j (Nat.le_refl _)).trans hy
        have hlt' : (j : Int) < (n : Int) := by omega
        have hi' : (i : Int) < (n : Int) := by omega
        obtain ⟨ao9, cap9, hvs, -, hos⟩ := HRW.out.at.open
        obtain ⟨bs, ofs, hbs, -, hBs2, hcs⟩ := hos j y hyR
        simp only [Value.slice.injEq] at hvs
        have hgo := hvs.1.trans hbs
        simp only [Option.some.injEq, Addr.mk.injEq] at hgo
        obtain ⟨rfl, rfl, -⟩ := hgo
        obtain ⟨y0, y1⟩ := y
        have c0 : wr.cell? ⟨g, j * 2, none⟩ = some (.int .i64 y0) := by have := hcs 0 _ rfl; simpa [show EH.sz = 2 from rfl] using this
        have c1 : wr.cell? ⟨g, j * 2 + 1, none⟩ = some (.int .i64 y1) := by have := hcs 1 _ rfl; simpa [show EH.sz = 2 from rfl] using this
        clear hvs hbs hos hBs2 hcs
        have HC := HP.out (y0, y1) (List.mem_of_getElem? hy)
        obtain ⟨q, hq⟩ : ∃ q, p (y0, y1) = q := ⟨_, rfl⟩
        obtain ⟨W2, hW2⟩ : ∃ W, W = wr.alloc (BH y0 y1) := ⟨_, rfl⟩
        have bw2 : Below wr.heap.size wr W2 := by rw [hW2]; exact (Below.refl _ _).alloc (Nat.le_refl _) _
        have HB2 : Hid (Below B w W2) := HBR.out.trans (bw2.mono hBs)
        have HR2 : Hid (Row EH W2 B 55 (.slice (some ⟨g, 0, none⟩) n cap) R) := HRW.out.up bw2
        have HX2 : Hid (W2.heap[wr.heap.size]? = some (BH y0 y1)) := by show W2.heap[wr.heap.size]? = _; rw [hW2]; exact heap_alloc_new _ _
        clear bw2
        go_wp2_with fail
        rw [← hW2]
        clear hW2
        refine (HC W2 HB2.out).mono ?_
        rintro e w3 ⟨rfl, hb3⟩
        rw [hq]
        have HB3 : Hid (Below B w w3) := HB2.out.trans (hb3.mono (Nat.le_trans hB HB2.out.size))
        have HR3 : Hid (Row EH w3 B 55 (.slice (some ⟨g, 0, none⟩) n cap) R) := HR2.out.up hb3
        have HX3 : Hid (w3.heap[wr.heap.size]? = some (BH y0 y1)) := (hb3.block _ (Array.getElem?_eq_some_iff.1 HX2.out).1).trans HX2.out
        clear hb3 HC
        cases q with
        | true =>
          have HD2 : Hid (Nf.Del p U R i (j + 1)) := HD.out.gone hy hq
          clear hq hy hyR
          go_wp2
          go_roundw
          case rel => exact ⟨i, j + 1, R, hi, by omega, rfl, by go_num, HD2, HR3, HB3⟩
          case measure => simp [intOf]; omega
        | false =>
          have HD2 : Hid (Nf.Del p U (R.set i (y0, y1)) (i + 1) (j + 1)) := HD.out.kept hy hq
          have hij : i < j := HD.out.lt
          obtain ⟨o, ho⟩ : ∃ o, R[i]? = some o := ⟨_, List.getElem?_eq_getElem (by omega)⟩
          obtain ⟨⟨f0, f1⟩, -⟩ := two_of HX3.out
          have HR4 : Hid (Row EH ((w3.setCell ⟨g, i * 2, none⟩ (.int .i64 y0)).setCell ⟨g, i * 2 + 1, none⟩ (.int .i64 y1)) B 55 (.slice (some ⟨g, 0, none⟩) n cap) (R.set i (y0, y1))) := by
            have h1 := Row.cell (k := i) (j := 0) (x := o) (x' := (y0, o.2)) (u := .int .i64 y0) HR3.out ho (by decide) rfl
            have h2 := Row.cell (k := i) (j := 1) (x := (y0, o.2)) (x' := (y0, y1)) (u := .int .i64 y1) h1 (by rw [List.getElem?_set_self (by omega)]) (by decide) rfl
            rw [List.set_set] at h2
            exact h2
          obtain ⟨cur, hcur, hcs⟩ : ∃ cur, w3.heap[g]? = some (.cells cur 55 (0, 0)) ∧ n * 2 ≤ cur.size := by
            rcases HR3.out with ⟨h, _⟩ | ⟨g', cap', cur, h, _, h2, h3, _, h5, _⟩
            · cases h
            · simp only [Value.slice.injEq, Option.some.injEq, Addr.mk.injEq] at h
              obtain ⟨⟨rfl, -, -⟩, -, rfl⟩ := h
              refine ⟨cur, h2, Nat.le_trans (Nat.mul_le_mul_right 2 ?_) h5⟩
              rw [← hRl]
              exact h3
          have d0 : w3.cell? ⟨g, i * 2, none⟩ = some (cur[i * 2]'(by omega)) := by simp [World.cell?, hcur]
          have d1 : w3.cell? ⟨g, i * 2 + 1, none⟩ = some (cur[i * 2 + 1]'(by omega)) := by simp [World.cell?, hcur]
          have e0 : w3.frozen? ⟨g, i * 2, none⟩ = false := by simp [World.frozen?, hcur]
          have e1 : w3.frozen? ⟨g, i * 2 + 1, none⟩ = false := by simp [World.frozen?, hcur]
          have HB4 : Hid (Below B w ((w3.setCell ⟨g, i * 2, none⟩ (.int .i64 y0)).setCell ⟨g, i * 2 + 1, none⟩ (.int .i64 y1))) := Below.setCell (Below.setCell HB3.out (show B ≤ g from hgB) _) (show B ≤ g from hgB) _
          clear hq hy hyR ho
          go_wp2
          go_roundw
          case rel => exact ⟨i + 1, j + 1, R.set i (y0, y1), by omega, by omega, by go_num, by go_num, HD2, HR4, HB4⟩
          case measure => simp [intOf]; omega
      · obtain rfl : j = n := by omega
        have hil := HD.out.ilen (by rw [HN.out]; exact Nat.le_refl _)
        have hfr := HD.out.front
        rw [show U.take j = U from List.take_of_length_le (by rw [HN.out]; exact Nat.le_refl _)] at hil hfr
        obtain ⟨cur, hcur, hcs, hcap, hcm, htk⟩ : ∃ cur, wr.heap[g]? = some (.cells cur 55 (0, 0)) ∧ cap * 2 ≤ cur.size ∧ j ≤ cap ∧ cap ≤ maxLen ∧ cur.toList.take (j * 2) = EH.flat R := by
          rcases HRW.out with ⟨h, _⟩ | ⟨g', cap', cur, h, _, h2, h3, h4, h5, h6⟩
          · cases h
          · simp only [Value.slice.injEq, Option.some.injEq, Addr.mk.injEq] at h
            obtain ⟨⟨rfl, -, -⟩, -, rfl⟩ := h
            rw [hRl] at h3 h6
            exact ⟨cur, h2, h5, h3, h4, h6⟩
        have hi' : (i : Int) ≤ (j : Int) := by omega
        have hji : (j : Int) ≤ (cap : Int) := by omega
        obtain ⟨W5, hW5⟩ : ∃ W, W = wr.setRow g (cur.toList.take (i * 2) ++ List.replicate ((j - i) * 2) (Value.int .i64 0) ++ cur.toList.drop (i * 2 + (j - i) * 2)).toArray := ⟨_, rfl⟩
        have hcl : ∀ ty, (Builtin.clear_ #[142] ty #[.slice (some ⟨g, i * 2, none⟩) (j - i) (cap - i)]).run Tryz.prog wr = .ok (.tuple #[]) W5 := fun ty => by
          rw [hW5]
          exact clear_two wr g (i * 2) (j - i) (cap - i) ty cur (by omega) hcur (by omega)
        have HB5 : Hid (Below B w W5) := by
          show Below B w W5
          rw [hW5]
          exact below_row HBR.out hgB _
        have HF : Hid (AtW EH W5 (.slice (some ⟨g, 0, none⟩) i cap) (U.filter fun x => !p x)) := by
          show AtW EH W5 (.slice (some ⟨g, 0, none⟩) i cap) (U.filter fun x => !p x)
          rw [← hfr]
          have hw5 : W5.heap[g]? = some (.cells (cur.toList.take (i * 2) ++ List.replicate ((j - i) * 2) (Value.int .i64 0) ++ cur.toList.drop (i * 2 + (j - i) * 2)).toArray 55 (0, 0)) := by
            rw [hW5]
            exact setRow_heap wr g _ _ _ _ hcur
          have hrow : Row EH W5 B 55 (.slice (some ⟨g, 0, none⟩) (R.take i).length cap) (R.take i) := by
            refine .inr ⟨g, cap, _, rfl, hgB, hw5, by rw [List.length_take]; omega, hcm, ?_, ?_⟩
            · simp
              have : EH.sz = 2 := rfl
              rw [this]
              omega
            · have e1 : (R.take i).length = i := by rw [List.length_take]; omega
              have e2 : EH.sz = 2 := rfl
              rw [e1, e2, List.toList_toArray, List.append_assoc, List.take_append_of_le_length (by rw [List.length_take, Array.length_toList]; omega), List.take_take, show min (i * 2) (i * 2) = i * 2 by omega]
              have e3 : cur.toList.take (i * 2) = (cur.toList.take (j * 2)).take (i * 2) := by rw [List.take_take, show min (i * 2) (j * 2) = i * 2 by omega]
              rw [e3, htk]
              have e4 : EH.flat R = EH.flat (R.take i) ++ EH.flat (R.drop i) := by rw [← EH.flat_append, List.take_append_drop]
              rw [e4, List.take_append_of_le_length (by rw [EH.flat_length, e1, e2]; exact Nat.le_refl _)]
              refine List.take_of_length_le ?_
              rw [EH.flat_length, e1, e2]
              exact Nat.le_refl _
          have := hrow.at.wide
          rwa [show (R.take i).length = i by rw [List.length_take]; omega] at this
        clear hfr hil htk hW5
        go_wp2
        go_ret
        exact ⟨_, rfl, HF.out, HB5.out⟩
end Go.Proofs.YtggoccfddnpelaaGreat
