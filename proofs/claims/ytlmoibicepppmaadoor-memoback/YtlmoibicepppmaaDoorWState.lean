/-
  While a memo is read: what stands; the plain reader.
-/
import Derived.Test.YtlmoibicepppmaaDoorWRead
namespace Go.Proofs.YtlmoibicepppmaaDoor
open Go.ChangeShapes Go.WideShapes Go.ChangeAt Go.RowKit Go.Deep Me
set_option maxRecDepth 100000
abbrev NS : Value := .slice none 0 0
theorem Row.base {α : Type} {E : Enc α} {w : World} {B B' : Nat} {e : TypeId} {v : Value} {ls : List α} (h : Row E w B e v ls) (hB : B' ≤ B) : Row E w B' e v ls := by
  rcases h with h | ⟨g, cap, cur, rfl, hg, hr⟩
  · exact .inl h
  · exact .inr ⟨g, cap, cur, rfl, by omega, hr⟩
structure Wh (w0 : World) (L M : Nat) (l : List (Int × ByteArray)) (m : Mm) (u z : Value) (w : World) : Prop where
  lt : ∃ v, Lt w L v l
  bx : w.heap[M]? = some (BM m u z)
  rs : w.heap[w0.heap.size]? = some (BM Me.zero NS NS)
  ru : Row EI w (M + 1) 3 u m.lives
  rz : Row EM w (M + 1) 50 z m.items
  bel : Below w0.heap.size w0 w
  hR : w0.heap.size < L
  hL : L < M
  sz : ∀ x ∈ l, x.2.size ≤ 65535
  len : l.length ≤ 60000
theorem below_grown {B L : Nat} {w0 w w' : World} (h : Below B w0 w) (hg : w.grownBy w' (some L)) (hL : B ≤ L) (hB : B ≤ w.heap.size) : Below B w0 w' :=
  ⟨hg.os.trans h.os, hg.tape.trans h.tape, hg.output.trans h.output, Nat.le_trans h.size hg.size, fun k hk => (hg.block k (by omega) (by simp; omega)).trans (h.block k hk)⟩
theorem Wh.read {w0 w w' : World} {L M : Nat} {l r : List (Int × ByteArray)} {m : Mm} {u z : Value} (h : Wh w0 L M l m u z w) (hg : w.grownBy w' (some L)) (hl : ∃ v, Lt w' L v r) (hsz : ∀ x ∈ r, x.2.size ≤ 65535) (hlen : r.length ≤ 60000) : Wh w0 L M r m u z w' := by
  have h1 := h.hR; have h2 := h.hL
  have h3 := block_lt h.bx
  refine ⟨hl, (hg.block M h3 (by simp; omega)).trans h.bx, (hg.block _ (block_lt h.rs) (by simp; omega)).trans h.rs, h.ru.stay hg (h.ru.ne_low (by omega)), h.rz.stay hg (h.rz.ne_low (by omega)), below_grown h.bel hg (by omega) (by omega), h1, h2, hsz, hlen⟩
theorem Wh.put {w0 w : World} {L M : Nat} {l : List (Int × ByteArray)} {m m' : Mm} {u z u' z' : Value} (h : Wh w0 L M l m u z w) (k : Nat) (p : Value)
    (hk : (#[.int .i64 m.k, .int .i64 m.v, .int .i64 m.n, .int .i64 m.o, .int .i64 m.c, .int .i64 m.b, .int .i64 m.l, .int .i64 m.cl, u, z, .int .i64 m.mo, .int .i64 m.ms, .int .i64 m.mm, .int .i64 m.nu, .string m.d] : Array Value).setIfInBounds k p = #[.int .i64 m'.k, .int .i64 m'.v, .int .i64 m'.n, .int .i64 m'.o, .int .i64 m'.c, .int .i64 m'.b, .int .i64 m'.l, .int .i64 m'.cl, u', z', .int .i64 m'.mo, .int .i64 m'.ms, .int .i64 m'.mm, .int .i64 m'.nu, .string m'.d])
    (hu : Row EI w (M + 1) 3 u' m'.lives) (hz : Row EM w (M + 1) 50 z' m'.items) : Wh w0 L M l m' u' z' (w.setCell ⟨M, k, none⟩ p) := by
  have h1 := h.hR; have h2 := h.hL
  have h3 := block_lt h.bx
  have hg := grown_set1 w M k p
  obtain ⟨v, hl⟩ := h.lt
  refine ⟨⟨v, hl.grown h2 hg⟩, by rw [set_at h.bx, hk], (hg.block _ (block_lt h.rs) (by simp; omega)).trans h.rs, hu.stay hg (hu.ne_low (by omega)), hz.stay hg (hz.ne_low (by omega)), below_grown h.bel hg (by omega) (by omega), h1, h2, h.sz, h.len⟩
def c13 (m : Mm) (l : List (Int × ByteArray)) : Option Mm := if l.length = 0 ∧ right m = true then some m else none
def c12 (m : Mm) (l : List (Int × ByteArray)) : Option Mm := (pData l).bind fun q => c13 { m with d := q.1 } q.2
def c11 (m : Mm) (l : List (Int × ByteArray)) : Option Mm := (pNum 12 2 l).bind fun q => c12 { m with nu := q.1 } q.2
def c10 (m : Mm) (l : List (Int × ByteArray)) : Option Mm := (pMan l).bind fun q => c11 { m with mo := q.1.1, ms := q.1.2.1, mm := q.1.2.2 } q.2
def c9 (m : Mm) (l : List (Int × ByteArray)) : Option Mm := (pItems l).bind fun q => c10 { m with items := q.1 } q.2
def c8 (m : Mm) (l : List (Int × ByteArray)) : Option Mm := (pLives l).bind fun q => c9 { m with lives := q.1 } q.2
def c7 (m : Mm) (l : List (Int × ByteArray)) : Option Mm := (pNum 8 6 l).bind fun q => c8 { m with cl := q.1 } q.2
def c6 (m : Mm) (l : List (Int × ByteArray)) : Option Mm := (pNum 7 6 l).bind fun q => c7 { m with l := q.1 } q.2
def c5 (m : Mm) (l : List (Int × ByteArray)) : Option Mm := (pNum 6 6 l).bind fun q => c6 { m with b := q.1 } q.2
def c4 (m : Mm) (l : List (Int × ByteArray)) : Option Mm := (pNum 5 6 l).bind fun q => c5 { m with c := q.1 } q.2
def c3 (m : Mm) (l : List (Int × ByteArray)) : Option Mm := (pNum 4 6 l).bind fun q => c4 { m with o := q.1 } q.2
def c2 (m : Mm) (l : List (Int × ByteArray)) : Option Mm := (pNum 3 6 l).bind fun q => c3 { m with n := q.1 } q.2
def c1 (m : Mm) (l : List (Int × ByteArray)) : Option Mm := (pNum 2 6 l).bind fun q => c2 { m with v := q.1 } q.2
def c0 (m : Mm) (l : List (Int × ByteArray)) : Option Mm := (pNum 1 1 l).bind fun q => c1 { m with k := q.1 } q.2
/-- The memo that fields are. -/
def pMemo (l : List (Int × ByteArray)) : Option Mm := c0 Me.zero l
theorem pNum_sub {t : Int} {z : Nat} {l r : List (Int × ByteArray)} {a : Int} (h : pNum t z l = some (a, r)) : (∀ x ∈ r, x ∈ l) ∧ r.length ≤ l.length := by
  match l, h with
  | [], h => simp [pNum] at h; obtain ⟨-, rfl⟩ := h; simp
  | (t', s) :: l, h =>
    simp only [pNum] at h
    split at h
    · split at h
      · simp at h; obtain ⟨-, rfl⟩ := h; exact ⟨fun x hx => List.mem_cons_of_mem _ hx, by simp⟩
      · cases h
    · simp at h; obtain ⟨-, rfl⟩ := h; exact ⟨fun x hx => hx, Nat.le_refl _⟩
theorem pData_sub {l r : List (Int × ByteArray)} {a : ByteArray} (h : pData l = some (a, r)) : (∀ x ∈ r, x ∈ l) ∧ r.length ≤ l.length := by
  match l, h with
  | [], h => simp [pData] at h; obtain ⟨-, rfl⟩ := h; simp
  | (t', s) :: l, h =>
    simp only [pData] at h
    split at h
    · split at h
      · cases h
      · simp at h; obtain ⟨-, rfl⟩ := h; exact ⟨fun x hx => List.mem_cons_of_mem _ hx, by simp⟩
    · simp at h; obtain ⟨-, rfl⟩ := h; exact ⟨fun x hx => hx, Nat.le_refl _⟩
theorem pMan_sub {l r : List (Int × ByteArray)} {a : Int × Int × Int} (h : pMan l = some (a, r)) : (∀ x ∈ r, x ∈ l) ∧ r.length ≤ l.length := by
  match l, h with
  | [], h => simp [pMan] at h; obtain ⟨-, rfl⟩ := h; simp
  | (t', s) :: l, h =>
    simp only [pMan] at h
    split at h
    · split at h
      · simp at h; obtain ⟨-, rfl⟩ := h; exact ⟨fun x hx => List.mem_cons_of_mem _ hx, by simp⟩
      · cases h
    · simp at h; obtain ⟨-, rfl⟩ := h; exact ⟨fun x hx => hx, Nat.le_refl _⟩
theorem pLives_sub : ∀ {l r : List (Int × ByteArray)} {a : List Int}, pLives l = some (a, r) → (∀ x ∈ r, x ∈ l) ∧ r.length ≤ l.length
  | [], r, a, h => by simp [pLives] at h; obtain ⟨-, rfl⟩ := h; simp
  | (t', s) :: l, r, a, h => by
    simp only [pLives] at h
    split at h
    · split at h
      · cases hq : pLives l with
        | none => rw [hq] at h; cases h
        | some q =>
          rw [hq] at h
          simp at h
          obtain ⟨-, rfl⟩ := h
          have := pLives_sub (l := l) (r := q.2) (a := q.1) hq
          exact ⟨fun x hx => List.mem_cons_of_mem _ (this.1 x hx), by simp; omega⟩
      · cases h
    · simp at h; obtain ⟨-, rfl⟩ := h; exact ⟨fun x hx => hx, Nat.le_refl _⟩
theorem pItems_sub : ∀ {l r : List (Int × ByteArray)} {a : List It}, pItems l = some (a, r) → (∀ x ∈ r, x ∈ l) ∧ r.length ≤ l.length
  | [], r, a, h => by simp [pItems] at h; obtain ⟨-, rfl⟩ := h; simp
  | (t', s) :: l, r, a, h => by
    simp only [pItems] at h
    split at h
    · split at h
      · cases hq : pItems l with
        | none => rw [hq] at h; cases h
        | some q =>
          rw [hq] at h
          simp at h
          obtain ⟨-, rfl⟩ := h
          have := pItems_sub (l := l) (r := q.2) (a := q.1) hq
          exact ⟨fun x hx => List.mem_cons_of_mem _ (this.1 x hx), by simp; omega⟩
      · cases h
    · simp at h; obtain ⟨-, rfl⟩ := h; exact ⟨fun x hx => hx, Nat.le_refl _⟩
end Go.Proofs.YtlmoibicepppmaaDoor
