/-
  Bids in plain words: which is the better one, a tally as a list of bids that rises by nodes. No program.
-/
import Derived.Test.YtdcknokggjbebaaYPn
namespace Go.Proofs.Ytdcknokggjbebaa
/-- A bid: its node, its view, its last operation. -/
abbrev Bd : Type := Int × Int × Int
namespace Ty
def Fits (m : Int) (x : Bd) : Prop := (0 ≤ x.1 ∧ x.1 < m) ∧ (0 ≤ x.2.1 ∧ x.2.1 ≤ 1099511627776) ∧ (0 ≤ x.2.2 ∧ x.2.2 ≤ 1099511627776)
instance (m : Int) (x : Bd) : Decidable (Fits m x) := by unfold Fits; infer_instance
def Inc (L : List Bd) : Prop := L.Pairwise fun a b => a.1 < b.1
def has (L : List Bd) (k : Int) : Bool := L.any fun x => x.1 == k
def get (L : List Bd) (k : Int) : Bd := (L.find? fun x => x.1 == k).getD (0, 0, 0)
def del (L : List Bd) (k : Int) : List Bd := L.filter fun x => !(x.1 == k)
def low (L : List Bd) (k : Int) : List Bd := L.filter fun x => decide (x.1 < k)
def high (L : List Bd) (k : Int) : List Bd := L.filter fun x => decide (k < x.1)
def add (L : List Bd) (b : Bd) : List Bd := low L b.1 ++ [b] ++ high L b.1
theorem has_iff {L : List Bd} {k : Int} : has L k = true ↔ ∃ x ∈ L, x.1 = k := by simp [has]
theorem has_no {L : List Bd} {k : Int} : has L k = false ↔ ∀ x ∈ L, x.1 ≠ k := by simp [has]
theorem mem_del {L : List Bd} {k : Int} {x : Bd} : x ∈ del L k ↔ x ∈ L ∧ x.1 ≠ k := by simp [del]
theorem mem_add {L : List Bd} {b x : Bd} : x ∈ add L b ↔ x = b ∨ (x ∈ L ∧ x.1 ≠ b.1) := by
  simp only [add, low, high, List.mem_append, List.mem_filter, List.mem_singleton, decide_eq_true_eq]
  constructor
  · rintro ((⟨h, h1⟩ | h) | ⟨h, h1⟩)
    · exact .inr ⟨h, by omega⟩
    · exact .inl h
    · exact .inr ⟨h, by omega⟩
  · rintro (h | ⟨h, h1⟩)
    · exact .inl (.inr h)
    · by_cases h2 : x.1 < b.1
      · exact .inl (.inl ⟨h, h2⟩)
      · exact .inr ⟨h, by omega⟩
theorem inc_del {L : List Bd} (h : Inc L) (k : Int) : Inc (del L k) := h.filter _
theorem inc_add {L : List Bd} (h : Inc L) (b : Bd) : Inc (add L b) := by
  unfold Inc add
  rw [List.pairwise_append, List.pairwise_append]
  refine ⟨⟨h.filter _, List.pairwise_singleton _ _, fun x hx y hy => ?_⟩, h.filter _, fun x hx y hy => ?_⟩
  · obtain rfl := List.mem_singleton.1 hy
    simpa [low] using (List.mem_filter.1 hx).2
  · have hy2 : b.1 < y.1 := by simpa using (List.mem_filter.1 hy).2
    rcases List.mem_append.1 hx with hx | hx
    · have hx2 : x.1 < b.1 := by simpa using (List.mem_filter.1 hx).2
      omega
    · obtain rfl := List.mem_singleton.1 hx
      exact hy2
theorem inc_head {x : Bd} {L : List Bd} (h : Inc (x :: L)) : ∀ y ∈ L, x.1 < y.1 := (List.pairwise_cons.1 h).1
theorem inc_tail {x : Bd} {L : List Bd} (h : Inc (x :: L)) : Inc L := (List.pairwise_cons.1 h).2
/-- Two lists that rise and have the same bids are one. -/
theorem inc_ext : ∀ {L L' : List Bd}, Inc L → Inc L' → (∀ x, x ∈ L ↔ x ∈ L') → L = L'
  | [], [], _, _, _ => rfl
  | [], y :: M, _, _, h => by have := (h y).2 (by simp); simp at this
  | x :: L, [], _, _, h => by have := (h x).1 (by simp); simp at this
  | x :: L, y :: M, h1, h2, h => by
    have a1 := inc_head h1
    have a2 := inc_head h2
    have e : x = y := by
      rcases List.mem_cons.1 ((h x).1 (by simp)) with e | e
      · exact e
      · rcases List.mem_cons.1 ((h y).2 (by simp)) with e' | e'
        · exact e'.symm
        · have := a1 y e'
          have := a2 x e
          omega
    subst e
    congr 1
    refine inc_ext (inc_tail h1) (inc_tail h2) fun z => ?_
    constructor
    · intro hz
      rcases List.mem_cons.1 ((h z).1 (by simp [hz])) with e | e
      · have := a1 z hz
        rw [e] at this
        omega
      · exact e
    · intro hz
      rcases List.mem_cons.1 ((h z).2 (by simp [hz])) with e | e
      · have := a2 z hz
        rw [e] at this
        omega
      · exact e
theorem inc_one {L : List Bd} (h : Inc L) {x y : Bd} (hx : x ∈ L) (hy : y ∈ L) (e : x.1 = y.1) : x = y := by
  induction L with
  | nil => simp at hx
  | cons z L ih =>
    have a := inc_head h
    rcases List.mem_cons.1 hx with ex | hx1
    · rcases List.mem_cons.1 hy with ey | hy1
      · rw [ex, ey]
      · have := a y hy1
        rw [ex] at e
        omega
    · rcases List.mem_cons.1 hy with ey | hy1
      · have := a x hx1
        rw [ey] at e
        omega
      · exact ih (inc_tail h) hx1 hy1
theorem get_mem {L : List Bd} (h : Inc L) {x : Bd} (hx : x ∈ L) : get L x.1 = x := by
  unfold get
  cases e : L.find? (fun y => y.1 == x.1) with
  | none => have := List.find?_eq_none.1 e x hx; simp at this
  | some y =>
    have h1 := List.mem_of_find?_eq_some e
    have h2 := List.find?_some e
    exact inc_one h h1 hx (by simpa using h2)
theorem get_out {L : List Bd} {k : Int} (h : has L k = false) : get L k = (0, 0, 0) := by
  unfold get
  rw [List.find?_eq_none.2 (fun x hx => by simpa using has_no.1 h x hx)]
  rfl
theorem del_out {L : List Bd} {k : Int} (h : has L k = false) : del L k = L := List.filter_eq_self.2 fun x hx => by simpa using has_no.1 h x hx
theorem del_add {L : List Bd} (h : Inc L) {b : Bd} (hn : has L b.1 = false) : del (add L b) b.1 = L := by
  refine inc_ext (inc_del (inc_add h b) _) h fun x => ?_
  rw [mem_del, mem_add]
  constructor
  · rintro ⟨rfl | h1, h2⟩
    · exact absurd rfl h2
    · exact h1.1
  · intro hx
    have := has_no.1 hn x hx
    exact ⟨.inr ⟨hx, this⟩, this⟩
theorem low_del (L : List Bd) (k : Int) : low (del L k) k = low L k := by
  unfold low del
  rw [List.filter_filter]
  refine List.filter_congr fun x _ => ?_
  by_cases h : x.1 < k
  · simp [h]; omega
  · simp [h]
theorem high_del (L : List Bd) (k : Int) : high (del L k) k = high L k := by
  unfold high del
  rw [List.filter_filter]
  refine List.filter_congr fun x _ => ?_
  by_cases h : k < x.1
  · simp [h]; omega
  · simp [h]
theorem fits_add {m : Int} {L : List Bd} (h : ∀ x ∈ L, Fits m x) {b : Bd} (hb : Fits m b) : ∀ x ∈ add L b, Fits m x := fun x hx => by
  rcases mem_add.1 hx with rfl | hx
  · exact hb
  · exact h x hx.1
theorem fits_del {m : Int} {L : List Bd} (h : ∀ x ∈ L, Fits m x) (k : Int) : ∀ x ∈ del L k, Fits m x := fun x hx => h x (mem_del.1 hx).1

/-- Is a better than b? -/
def bet (a b : Bd) : Bool := if a.2.1 = b.2.1 then (if a.2.2 = b.2.2 then decide (a.1 < b.1) else decide (b.2.2 < a.2.2)) else decide (b.2.1 < a.2.1)
theorem bet_total {a b : Bd} (h1 : bet a b = false) (h2 : bet b a = false) : a = b := by
  obtain ⟨a0, a1, a2⟩ := a
  obtain ⟨b0, b1, b2⟩ := b
  unfold bet at h1 h2
  simp only at h1 h2
  by_cases e1 : a1 = b1
  · rw [if_pos e1] at h1
    rw [if_pos e1.symm] at h2
    by_cases e2 : a2 = b2
    · rw [if_pos e2] at h1
      rw [if_pos e2.symm] at h2
      simp at h1 h2
      have : a0 = b0 := by omega
      subst e1 e2 this
      rfl
    · rw [if_neg e2] at h1
      rw [if_neg (Ne.symm e2)] at h2
      simp at h1 h2
      omega
  · rw [if_neg e1] at h1
    rw [if_neg (Ne.symm e1)] at h2
    simp at h1 h2
    omega
theorem bet_iff (a b : Bd) : bet a b = true ↔ b.2.1 < a.2.1 ∨ (a.2.1 = b.2.1 ∧ (b.2.2 < a.2.2 ∨ (a.2.2 = b.2.2 ∧ a.1 < b.1))) := by
  unfold bet
  by_cases e1 : a.2.1 = b.2.1
  · by_cases e2 : a.2.2 = b.2.2
    · simp [e1, e2]
    · simp [e1, e2]
  · simp [e1]
theorem bet_self (a : Bd) : bet a a = false := by simp [bet]
theorem bet_not {a b : Bd} (h : bet a b = true) : bet b a = false := by
  cases h2 : bet b a with
  | false => rfl
  | true =>
    rw [bet_iff] at h h2
    omega
/-- What is not better than one that is not better. -/
theorem bet_trans {a b c : Bd} (h1 : bet a b = false) (h2 : bet b c = false) : bet a c = false := by
  cases h : bet a c with
  | false => rfl
  | true =>
    have n1 : ¬ (bet a b = true) := by simp [h1]
    have n2 : ¬ (bet b c = true) := by simp [h2]
    rw [bet_iff] at h n1 n2
    omega
def pick (m b : Bd) : Bd := if bet b m = true then b else m
def top (x : Bd) (L : List Bd) : Bd := L.foldl pick x
theorem top_snoc (x : Bd) (L : List Bd) (b : Bd) : top x (L ++ [b]) = pick (top x L) b := by simp [top]
theorem top_spec : ∀ (L : List Bd) (x : Bd), (top x L = x ∨ top x L ∈ L) ∧ bet x (top x L) = false ∧ ∀ b ∈ L, bet b (top x L) = false
  | [], x => ⟨.inl rfl, bet_self x, fun _ h => by cases h⟩
  | y :: L, x => by
    have e : top x (y :: L) = top (pick x y) L := rfl
    obtain ⟨h1, h2, h3⟩ := top_spec L (pick x y)
    rw [e]
    have hx : bet x (pick x y) = false ∧ bet y (pick x y) = false := by
      unfold pick
      by_cases h : bet y x = true
      · rw [if_pos h]
        exact ⟨bet_not h, bet_self y⟩
      · rw [if_neg h]
        exact ⟨bet_self x, by simpa using h⟩
    refine ⟨?_, bet_trans hx.1 h2, fun b hb => ?_⟩
    · rcases h1 with h1 | h1
      · rw [h1]
        unfold pick
        split
        · exact .inr (by simp)
        · exact .inl rfl
      · exact .inr (List.mem_cons_of_mem _ h1)
    · rcases List.mem_cons.1 hb with rfl | hb
      · exact bet_trans hx.2 h2
      · exact h3 b hb
/-- The best one of a tally. -/
def best (L : List Bd) : Bd := match L with | [] => (0, 0, 0) | x :: _ => top x L
def bestE (L : List Bd) : Int := if L = [] then 6 else 0
theorem best_mem {L : List Bd} (h : L ≠ []) : best L ∈ L := by
  cases L with
  | nil => exact absurd rfl h
  | cons x L =>
    rcases (top_spec (x :: L) x).1 with e | e
    · show top x (x :: L) ∈ _
      rw [e]
      simp
    · exact e
theorem best_top {L : List Bd} {b : Bd} (hb : b ∈ L) : bet b (best L) = false := by
  cases L with
  | nil => cases hb
  | cons x L => exact (top_spec (x :: L) x).2.2 b hb
theorem best_only {L : List Bd} {a : Bd} (ha : a ∈ L) (h : ∀ b ∈ L, bet b a = false) : a = best L :=
  bet_total (best_top ha) (h _ (best_mem (fun e => by rw [e] at ha; cases ha)))
theorem best_beats {L : List Bd} {a : Bd} (ha : a ∈ L) (hne : a ≠ best L) : bet (best L) a = true := by
  cases h : bet (best L) a with
  | true => rfl
  | false => exact absurd (bet_total (best_top ha) h) hne
theorem bestE_iff {L : List Bd} : bestE L = 0 ↔ 0 < L.length := by
  unfold bestE
  cases L with
  | nil => simp
  | cons x L => simp

/-- The nodes of a set are those of its bids. -/
def setOf (L : List Bd) (s : Nat) : Prop := s < 128 ∧ ∀ k : Nat, k < 7 → (Pn.bit s k = true ↔ ∃ x ∈ L, x.1 = k)
theorem nodes_pair : ∀ (s n : Nat), (Pn.nodes s n).Pairwise (fun a b => a < b)
  | s, n => by
    unfold Pn.nodes
    rw [List.pairwise_map]
    refine ((List.pairwise_lt_range (n := n)).filter _).imp fun {a b} h => ?_
    omega
theorem ints_ext : ∀ {L L' : List Int}, L.Pairwise (fun a b => a < b) → L'.Pairwise (fun a b => a < b) → (∀ x, x ∈ L ↔ x ∈ L') → L = L'
  | [], [], _, _, _ => rfl
  | [], y :: M, _, _, h => by have := (h y).2 (by simp); simp at this
  | x :: L, [], _, _, h => by have := (h x).1 (by simp); simp at this
  | x :: L, y :: M, h1, h2, h => by
    obtain ⟨a1, b1⟩ := List.pairwise_cons.1 h1
    obtain ⟨a2, b2⟩ := List.pairwise_cons.1 h2
    have e : x = y := by
      rcases List.mem_cons.1 ((h x).1 (by simp)) with e | e
      · exact e
      · rcases List.mem_cons.1 ((h y).2 (by simp)) with e' | e'
        · exact e'.symm
        · have := a1 y e'
          have := a2 x e
          omega
    subst e
    congr 1
    refine ints_ext b1 b2 fun z => ?_
    constructor
    · intro hz
      rcases List.mem_cons.1 ((h z).1 (by simp [hz])) with e | e
      · have := a1 z hz
        omega
      · exact e
    · intro hz
      rcases List.mem_cons.1 ((h z).2 (by simp [hz])) with e | e
      · have := a2 z hz
        omega
      · exact e
theorem nodes_of {L : List Bd} {s : Nat} {m : Nat} (hm : m ≤ 7) (hL : Inc L) (hf : ∀ x ∈ L, Fits (m : Int) x) (hs : setOf L s) : Pn.nodes s m = L.map (·.1) := by
  refine ints_ext (nodes_pair s m) (by rw [List.pairwise_map]; exact hL) fun z => ?_
  rw [Pn.mem_nodes, List.mem_map]
  constructor
  · rintro ⟨i, hi, hb, rfl⟩
    obtain ⟨x, hx, e⟩ := (hs.2 i (by omega)).1 hb
    exact ⟨x, hx, e⟩
  · rintro ⟨x, hx, rfl⟩
    obtain ⟨h0, h1⟩ := (hf x hx).1
    refine ⟨x.1.toNat, by omega, (hs.2 _ (by omega)).2 ⟨x, hx, by omega⟩, by omega⟩
theorem set_lt : ∀ s : Fin 128, ((∀ k : Fin 7, 1 ≤ k.1 → Pn.bit s.1 k.1 = false) → s.1 < 2) ∧ ((∀ k : Fin 7, 3 ≤ k.1 → Pn.bit s.1 k.1 = false) → s.1 < 8) ∧ ((∀ k : Fin 7, 5 ≤ k.1 → Pn.bit s.1 k.1 = false) → s.1 < 32) := by decide +kernel
theorem set_small {L : List Bd} {s : Nat} {m f : Int} (hm : Pn.Is m f) (hf : ∀ x ∈ L, Fits m x) (hs : setOf L s) : s < 2 ^ m.toNat := by
  have out : ∀ k : Fin 7, m ≤ (k.1 : Int) → Pn.bit s k.1 = false := fun k hk => by
    cases h : Pn.bit s k.1 with
    | false => rfl
    | true =>
      obtain ⟨x, hx, e⟩ := (hs.2 k.1 k.2).1 h
      have := (hf x hx).1
      omega
  have := set_lt ⟨s, hs.1⟩
  rcases hm with ⟨rfl, _⟩ | ⟨rfl, _⟩ | ⟨rfl, _⟩ | ⟨rfl, _⟩
  · exact this.1 fun k hk => out k (by omega)
  · exact this.2.1 fun k hk => out k (by omega)
  · exact this.2.2 fun k hk => out k (by omega)
  · exact hs.1
theorem or_bits : ∀ (s : Fin 128) (k : Fin 7), bits .or .i64 (s.1 : Int) (2 ^ k.1) = ((s.1 ||| 2 ^ k.1 : Nat) : Int) ∧ (s.1 ||| 2 ^ k.1) < 128 ∧ ∀ j : Fin 7, Pn.bit (s.1 ||| 2 ^ k.1) j.1 = (Pn.bit s.1 j.1 || j.1 == k.1) := by decide +kernel
theorem len_le {L : List Bd} {m f : Int} (hm : Pn.Is m f) (hL : Inc L) (hf : ∀ x ∈ L, Fits m x) : L.length ≤ 7 := by
  have h1 : (L.map (·.1)).Pairwise (fun a b => a < b) := by rw [List.pairwise_map]; exact hL
  have h2 : ∀ y ∈ L.map (·.1), 0 ≤ y ∧ y < 7 := fun y hy => by
    obtain ⟨x, hx, rfl⟩ := List.mem_map.1 hy
    have := (hf x hx).1
    rcases hm with ⟨rfl, _⟩ | ⟨rfl, _⟩ | ⟨rfl, _⟩ | ⟨rfl, _⟩ <;> omega
  have key : ∀ (l : List Int) (c : Int), l.Pairwise (fun a b => a < b) → (∀ y ∈ l, c ≤ y ∧ y < 7) → (l.length : Int) ≤ max 0 (7 - c) := by
    intro l
    induction l with
    | nil => intro c _ _; simp; omega
    | cons x l ih =>
      intro c hp hb
      obtain ⟨a1, b1⟩ := List.pairwise_cons.1 hp
      have := ih (x + 1) b1 (fun y hy => ⟨by have := a1 y hy; omega, (hb y (by simp [hy])).2⟩)
      have := hb x (by simp)
      simp only [List.length_cons]
      omega
  have := key _ 0 h1 h2
  rw [List.length_map] at this
  omega
end Ty
end Go.Proofs.Ytdcknokggjbebaa
