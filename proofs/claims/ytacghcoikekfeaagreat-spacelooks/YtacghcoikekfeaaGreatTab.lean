/-
  Tables of inodes as lists: what a slice of inodes stands for, their runs and entries with it; which tables are right, what a handle names, what is made next: plain functions on lists. No program.
-/
import Derived.Test.YtacghcoikekfeaaGreatBase
namespace Go.Proofs.YtacghcoikekfeaaGreat
open Go.RowKit
set_option maxRecDepth 100000

/-- Any world grown from w. -/
structure Grw (w : World) where
  out : World
  grown : w.grownBy out none
theorem grw_some (w : World) : Nonempty (Grw w) := ⟨⟨w, grown_refl _ _⟩⟩
/-- A region that only reads, and whose callees read and lay blocks of their own, walked once. -/
theorem wp_region_grw {P : Program} {id : Nat} {Q : Exit → Act → World → Prop} {a : Act} {w : World} {l : List Oper} (hm : P.follows .mixedOrders = true) (hB : Region.lexB .any l.toArray = true)
    (h : wpQuiet P l.toArray (fun w' => ∃ p : Grw w, w' = p.out) (fun a' => ∀ w', (∃ p : Grw w, w' = p.out) → Q .normal a' w') l a) : (Code.region id l.toArray true).wp P Q a w :=
  wp_region_quiet (C := fun w' => ∃ p : Grw w, w' = p.out) hm hB ⟨⟨w.drew, ⟨rfl, rfl, rfl, Nat.le_refl _, fun _ _ _ => rfl⟩⟩, rfl⟩ (by simpa using h)
theorem calls_grw {P : Program} {f : FuncId} {args : Array Value} {w W : World} {v : Value} (hg : w.grownBy W none)
    (h : Calls P f args W fun e w' => e = .returned v ∧ Below W.heap.size W w') : Calls P f args W fun e w'' => e = .returned v ∧ ∃ p : Grw w, w'' = p.out :=
  h.mono fun _ w' ⟨he, hw⟩ => ⟨he, ⟨w', grown_trans hg (grown_of_below hw none)⟩, rfl⟩
theorem Grw.below {w : World} (p : Grw w) : Below w.heap.size w p.out := below_none p.grown (Nat.le_refl _)

namespace It
/-- An inode. -/
structure Ino where
  gen : Int
  kind : Int
  links : Int
  size : Int
  stamp : Int
  runs : List (Int × ByteArray)
  ents : List (ByteArray × Int × Int × Int)
  next : Int
/-- An inode, and where its lists lie. -/
structure Rw where
  i : Ino
  rp : Option Addr
  rn : Nat
  rc : Nat
  ep : Option Addr
  en : Nat
  ec : Nat
def zeroI : Ino := ⟨0, 0, 0, 0, 0, [], [], 0⟩
def zeroR : Rw := ⟨zeroI, none, 0, 0, none, 0, 0⟩
instance : Inhabited Ino := ⟨zeroI⟩
instance : Inhabited Rw := ⟨zeroR⟩
abbrev pl (L : List Rw) : List Ino := L.map Rw.i
def one (x : Ino) : Bool := decide (1 ≤ x.gen ∧ x.gen ≤ 1099511627776) && (At.right x.kind x.links x.size x.stamp && (if x.kind = 2 then x.runs.isEmpty else if x.kind = 1 then x.ents.isEmpty && decide (x.next = 0) && decide (Bl.right (-1) x.runs) && decide (Bl.endOf x.runs ≤ x.size) else x.ents.isEmpty && decide (x.next = 0) && x.runs.isEmpty))
def rootB : List Ino → Bool
  | [] => false
  | x :: _ => decide (x.kind = 2)
def right (L : List Ino) : Bool := decide (1 ≤ L.length ∧ L.length ≤ 24) && (rootB L && L.all one)
def names (L : List Ino) (no gen : Int) : Bool := decide (0 ≤ no) && (match L[no.toNat]? with | some x => decide (x.gen = gen ∧ x.kind ≠ 0) | none => false)
def usedFrom (k : Nat) : List Ino → List (Int × Int)
  | [] => []
  | x :: l => if x.kind = 0 then usedFrom (k + 1) l else ((k : Int), x.gen) :: usedFrom (k + 1) l
def used (L : List Ino) : List (Int × Int) := usedFrom 0 L
def nextFrom (k : Nat) : List Ino → Int × Int
  | [] => ((k : Int), 1)
  | x :: l => if x.kind = 0 ∧ x.gen < 1099511627776 then ((k : Int), x.gen + 1) else nextFrom (k + 1) l
def next (L : List Ino) : Int × Int := nextFrom 0 L
def fresh (gen kind stamp : Int) : Ino := ⟨gen, kind, 1, 0, stamp, [], [], 0⟩
def put (L : List Ino) (no : Nat) (x : Ino) : List Ino := if no < L.length then L.set no x else L ++ [x]
def findErr (L : List Ino) (no gen : Int) : Int := if right L then (if names L no gen then 0 else 401) else 4
def argOk (kind stamp : Int) : Bool := decide (kind = 1 ∨ kind = 2) && decide (0 ≤ stamp ∧ stamp ≤ 1099511627776)
def makeErr (L : List Ino) (kind stamp : Int) : Int := if right L then (if argOk kind stamp then (if (next L).1 = 24 then 407 else 0) else 1) else 4
def makeTab (L : List Ino) (kind stamp : Int) : List Ino := if makeErr L kind stamp = 0 then put L (next L).1.toNat (fresh (next L).2 kind stamp) else []
def makeH (L : List Ino) (kind stamp : Int) : Int × Int := if makeErr L kind stamp = 0 then next L else (0, 0)
def putErr (L : List Ino) (no gen : Int) (x : Ino) : Int := if findErr L no gen = 0 then (if x.gen = gen ∧ x.kind ≠ 0 then (if right (put L no.toNat x) then 0 else 4) else 1) else findErr L no gen
def putTab (L : List Ino) (no gen : Int) (x : Ino) : List Ino := if putErr L no gen x = 0 then put L no.toNat x else []
def gone (gen : Int) : Ino := ⟨gen, 0, 0, 0, 0, [], [], 0⟩
def dropErr (L : List Ino) (no gen : Int) : Int := if findErr L no gen = 0 then (if no = 0 then 1 else 0) else findErr L no gen
def dropTab (L : List Ino) (no gen : Int) : List Ino := if dropErr L no gen = 0 then put L no.toNat (gone gen) else []
def findI (L : List Ino) (no gen : Int) : Ino := if findErr L no gen = 0 then (L[no.toNat]?).getD zeroI else zeroI
def new : List Ino := [fresh 1 2 0]

theorem one_gen {x : Ino} (h : ¬ (1 ≤ x.gen ∧ x.gen ≤ 1099511627776)) : one x = false := by unfold one; rw [decide_eq_false h]; rfl
theorem one_attr {x : Ino} (h : At.right x.kind x.links x.size x.stamp = false) : one x = false := by unfold one; rw [h]; simp
theorem one_dir {g l s t nx : Int} {rs es} (hg : 1 ≤ g ∧ g ≤ 1099511627776) (ha : At.right 2 l s t = true) : one ⟨g, 2, l, s, t, rs, es, nx⟩ = rs.isEmpty := by
  unfold one
  simp only
  rw [decide_eq_true hg, ha]
  simp
theorem one_file {g l s t nx : Int} {rs es} (hg : 1 ≤ g ∧ g ≤ 1099511627776) (ha : At.right 1 l s t = true) : one ⟨g, 1, l, s, t, rs, es, nx⟩ = (es.isEmpty && decide (nx = 0) && decide (Bl.right (-1) rs) && decide (Bl.endOf rs ≤ s)) := by
  unfold one
  simp only
  rw [decide_eq_true hg, ha]
  simp
theorem one_free {g l s t nx : Int} {rs es} (hg : 1 ≤ g ∧ g ≤ 1099511627776) (ha : At.right 0 l s t = true) : one ⟨g, 0, l, s, t, rs, es, nx⟩ = (es.isEmpty && decide (nx = 0) && rs.isEmpty) := by
  unfold one
  simp only
  rw [decide_eq_true hg, ha]
  simp
theorem one_bd {x : Ino} (h : one x = true) : 1 ≤ x.gen ∧ x.gen ≤ 1099511627776 := by
  unfold one at h
  simp only [Bool.and_eq_true, decide_eq_true_eq] at h
  exact h.1
theorem kind_bd {k l s t : Int} (h : At.right k l s t = true) : k = 0 ∨ k = 1 ∨ k = 2 := by
  rcases At.right_iff.1 h with h | ⟨_, _, h | h⟩
  · exact .inl h.1
  · exact .inr (.inl h.1)
  · exact .inr (.inr h.1)
theorem right_iff {L : List Ino} : right L = true ↔ (1 ≤ L.length ∧ L.length ≤ 24) ∧ rootB L = true ∧ ∀ x ∈ L, one x = true := by
  unfold right
  simp only [Bool.and_eq_true, decide_eq_true_eq, List.all_eq_true]
theorem mem_usedFrom {no gen : Int} : ∀ (L : List Ino) (k : Nat), (no, gen) ∈ usedFrom k L ↔ ∃ (i : Nat) (x : Ino), L[i]? = some x ∧ no = ((k + i : Nat) : Int) ∧ x.gen = gen ∧ x.kind ≠ 0
  | [], k => by simp [usedFrom]
  | y :: l, k => by
    have ih := mem_usedFrom (no := no) (gen := gen) l (k + 1)
    have shift : (∃ (i : Nat) (x : Ino), (y :: l)[i]? = some x ∧ no = ((k + i : Nat) : Int) ∧ x.gen = gen ∧ x.kind ≠ 0) ↔ (no = (k : Int) ∧ y.gen = gen ∧ y.kind ≠ 0) ∨ ∃ (i : Nat) (x : Ino), l[i]? = some x ∧ no = ((k + 1 + i : Nat) : Int) ∧ x.gen = gen ∧ x.kind ≠ 0 := by
      constructor
      · rintro ⟨i, x, hx, hn, hg, hk⟩
        match i, hx with
        | 0, hx =>
          simp at hx
          subst hx
          exact .inl ⟨by omega, hg, hk⟩
        | i + 1, hx => exact .inr ⟨i, x, by simpa using hx, by omega, hg, hk⟩
      · rintro (⟨hn, hg, hk⟩ | ⟨i, x, hx, hn, hg, hk⟩)
        · exact ⟨0, y, rfl, by omega, hg, hk⟩
        · exact ⟨i + 1, x, by simpa using hx, by omega, hg, hk⟩
    rw [shift, ← ih]
    show (no, gen) ∈ (if y.kind = 0 then usedFrom (k + 1) l else ((k : Int), y.gen) :: usedFrom (k + 1) l) ↔ _
    split
    · rename_i h0
      constructor
      · exact .inr
      · rintro (h | h)
        · exact absurd h0 h.2.2
        · exact h
    · rename_i h0
      rw [List.mem_cons, Prod.mk.injEq]
      constructor
      · rintro (⟨h1, h2⟩ | h)
        · exact .inl ⟨h1, h2.symm, h0⟩
        · exact .inr h
      · rintro (⟨h1, h2, _⟩ | h)
        · exact .inl ⟨h1, h2.symm⟩
        · exact .inr h
theorem names_iff {L : List Ino} {no gen : Int} : names L no gen = true ↔ ∃ (i : Nat) (x : Ino), L[i]? = some x ∧ no = (i : Int) ∧ x.gen = gen ∧ x.kind ≠ 0 := by
  unfold names
  simp only [Bool.and_eq_true, decide_eq_true_eq]
  constructor
  · rintro ⟨h0, h⟩
    split at h
    · rename_i x hx
      simp at h
      exact ⟨no.toNat, x, hx, by omega, h.1, h.2⟩
    · cases h
  · rintro ⟨i, x, hx, rfl, hg, hk⟩
    refine ⟨by omega, ?_⟩
    rw [show ((i : Int)).toNat = i from by omega, hx]
    simp [hg, hk]
theorem mem_used {L : List Ino} {no gen : Int} : (no, gen) ∈ used L ↔ names L no gen = true := by
  unfold used
  rw [mem_usedFrom, names_iff]
  simp
theorem usedFrom_append : ∀ (L : List Ino) (x : Ino) (k : Nat), usedFrom k (L ++ [x]) = usedFrom k L ++ (if x.kind = 0 then [] else [(((k + L.length : Nat) : Int), x.gen)])
  | [], x, k => by simp [usedFrom]
  | y :: l, x, k => by
    have := usedFrom_append l x (k + 1)
    simp only [List.cons_append, usedFrom, this, List.length_cons]
    rw [show k + 1 + l.length = k + (l.length + 1) from by omega]
    split <;> simp
theorem take_succ {β : Type} {l : List β} {k : Nat} {x : β} (h : l[k]? = some x) : l.take (k + 1) = l.take k ++ [x] := by
  rw [List.take_add_one, h]
  rfl
theorem used_take_succ {L : List Ino} {k : Nat} {x : Ino} (h : L[k]? = some x) : used (L.take (k + 1)) = used (L.take k) ++ (if x.kind = 0 then [] else [((k : Int), x.gen)]) := by
  have hk : k < L.length := (List.getElem?_eq_some_iff.1 h).1
  unfold used
  rw [take_succ h, usedFrom_append]
  simp [Nat.min_eq_left (Nat.le_of_lt hk)]
theorem usedFrom_length : ∀ (L : List Ino) (k : Nat), (usedFrom k L).length ≤ L.length
  | [], k => by simp [usedFrom]
  | y :: l, k => by
    have := usedFrom_length l (k + 1)
    unfold usedFrom
    split <;> simp <;> omega
theorem used_length (L : List Ino) : (used L).length ≤ L.length := usedFrom_length L 0
theorem nextFrom_drop : ∀ (L : List Ino) (k : Nat) (j : Nat), j ≤ L.length → (∀ i x, i < j → L[i]? = some x → ¬ (x.kind = 0 ∧ x.gen < 1099511627776)) → nextFrom k L = nextFrom (k + j) (L.drop j)
  | L, k, 0, _, _ => by simp
  | [], k, j + 1, hj, _ => by simp at hj
  | y :: l, k, j + 1, hj, h => by
    have ih := nextFrom_drop l (k + 1) j (by simpa using hj) (fun i x hi hx => h (i + 1) x (by omega) (by simpa using hx))
    have h0 := h 0 y (by omega) rfl
    rw [List.drop_succ_cons, show k + (j + 1) = k + 1 + j from by omega, ← ih]
    simp only [nextFrom]
    rw [if_neg h0]
theorem next_here {L : List Ino} {j : Nat} {x : Ino} (hx : L[j]? = some x) (h : ∀ i x, i < j → L[i]? = some x → ¬ (x.kind = 0 ∧ x.gen < 1099511627776)) (hf : x.kind = 0 ∧ x.gen < 1099511627776) : next L = ((j : Int), x.gen + 1) := by
  have hj : j < L.length := (List.getElem?_eq_some_iff.1 hx).1
  unfold next
  rw [nextFrom_drop L 0 j (by omega) h, List.drop_eq_getElem_cons hj]
  have e : L[j] = x := (List.getElem?_eq_some_iff.1 hx).2
  rw [e]
  simp only [nextFrom]
  rw [if_pos hf]
  simp
theorem next_none {L : List Ino} (h : ∀ i x, i < L.length → L[i]? = some x → ¬ (x.kind = 0 ∧ x.gen < 1099511627776)) : next L = ((L.length : Int), 1) := by
  unfold next
  rw [nextFrom_drop L 0 L.length (Nat.le_refl _) h]
  simp [nextFrom]
theorem nextFrom_cases : ∀ (L : List Ino) (k : Nat), (∃ (j : Nat) (x : Ino), L[j]? = some x ∧ x.kind = 0 ∧ x.gen < 1099511627776 ∧ nextFrom k L = (((k + j : Nat) : Int), x.gen + 1)) ∨ nextFrom k L = (((k + L.length : Nat) : Int), 1)
  | [], k => .inr (by simp [nextFrom])
  | y :: l, k => by
    unfold nextFrom
    split
    · rename_i h
      exact .inl ⟨0, y, rfl, h.1, h.2, by simp⟩
    · rcases nextFrom_cases l (k + 1) with ⟨j, x, hx, h1, h2, h3⟩ | h
      · exact .inl ⟨j + 1, x, by simpa using hx, h1, h2, by rw [h3, show k + 1 + j = k + (j + 1) from by omega]⟩
      · exact .inr (by rw [h, List.length_cons, show k + 1 + l.length = k + (l.length + 1) from by omega])
theorem next_cases (L : List Ino) : (∃ (j : Nat) (x : Ino), L[j]? = some x ∧ x.kind = 0 ∧ x.gen < 1099511627776 ∧ next L = ((j : Int), x.gen + 1)) ∨ next L = ((L.length : Int), 1) := by
  have := nextFrom_cases L 0
  unfold next
  simpa using this
theorem next_bd (L : List Ino) : 0 ≤ (next L).1 ∧ (next L).1 ≤ L.length := by
  rcases next_cases L with ⟨j, x, hx, _, _, h⟩ | h
  · have : j < L.length := (List.getElem?_eq_some_iff.1 hx).1
    rw [h]
    exact ⟨by omega, by omega⟩
  · rw [h]
    exact ⟨by omega, by omega⟩
theorem put_length (L : List Ino) (no : Nat) (x : Ino) : (put L no x).length = max L.length (if no < L.length then 0 else L.length + 1) := by
  unfold put
  split <;> simp
end It
open It

def EE : Enc (ByteArray × Int × Int × Int) := ⟨4, fun x => [.string x.1, .int .i64 x.2.1, .int .i64 x.2.2.1, .int .i64 x.2.2.2], fun _ => rfl, fun x u hu => by
  simp at hu
  rcases hu with rfl | rfl | rfl | rfl <;> rfl⟩
def EH : Enc (Int × Int) := ⟨2, fun x => [.int .i64 x.1, .int .i64 x.2], fun _ => rfl, fun x u hu => by
  simp at hu
  rcases hu with rfl | rfl <;> rfl⟩
def EI : Enc Rw := ⟨8, fun x => [.int .i64 x.i.gen, .int .i64 x.i.kind, .int .i64 x.i.links, .int .i64 x.i.size, .int .i64 x.i.stamp, .slice x.rp x.rn x.rc, .slice x.ep x.en x.ec, .int .i64 x.i.next], fun _ => rfl, fun x u hu => by
  simp at hu
  rcases hu with rfl | rfl | rfl | rfl | rfl | rfl | rfl | rfl <;> rfl⟩
abbrev VI (x : Rw) : Value := .agg #[.int .i64 x.i.gen, .int .i64 x.i.kind, .int .i64 x.i.links, .int .i64 x.i.size, .int .i64 x.i.stamp, .slice x.rp x.rn x.rc, .slice x.ep x.en x.ec, .int .i64 x.i.next]
/-- Lists that a copy can be made of. -/
def okI (x : Ino) : Prop := okFields x.runs ∧ x.runs.length ≤ 5864062014805 ∧ x.ents.length ≤ 3518437208883
/-- An inode's lists lie in the world. -/
def Good (S : Nat → Prop) (w : World) (x : Rw) : Prop := At ER S w (.slice x.rp x.rn x.rc) x.i.runs ∧ At EE S w (.slice x.ep x.en x.ec) x.i.ents ∧ okI x.i
def TabAt (S : Nat → Prop) (w : World) (v : Value) (L : List Rw) : Prop := At EI S w v L ∧ ∀ x ∈ L, Good S w x
abbrev TabW (w : World) (v : Value) (L : List Rw) : Prop := TabAt (fun _ => True) w v L
abbrev GoodW (w : World) (x : Rw) : Prop := Good (fun _ => True) w x
theorem Good.up {S : Nat → Prop} {w w' : World} {x : Rw} (h : Good S w x) (hb : Below w.heap.size w w') : Good S w' x := ⟨h.1.up hb, h.2.1.up hb, h.2.2⟩
theorem TabAt.up {S : Nat → Prop} {w w' : World} {v : Value} {L : List Rw} (h : TabAt S w v L) (hb : Below w.heap.size w w') : TabAt S w' v L := ⟨h.1.up hb, fun x hx => (h.2 x hx).up hb⟩
theorem Good.len {S : Nat → Prop} {w : World} {x : Rw} (h : Good S w x) : x.rn = x.i.runs.length ∧ x.en = x.i.ents.length := by
  obtain ⟨_, _, h1, _⟩ := h.1.open
  obtain ⟨_, _, h2, _⟩ := h.2.1.open
  simp only [Value.slice.injEq] at h1 h2
  exact ⟨h1.2.1, h2.2.1⟩
/-- The eight cells of an inode. -/
def eight (w : World) (b o : Nat) (x : Rw) : Prop :=
  w.cell? ⟨b, o, none⟩ = some (.int .i64 x.i.gen) ∧ w.cell? ⟨b, o + 1, none⟩ = some (.int .i64 x.i.kind) ∧ w.cell? ⟨b, o + 2, none⟩ = some (.int .i64 x.i.links) ∧ w.cell? ⟨b, o + 3, none⟩ = some (.int .i64 x.i.size) ∧
  w.cell? ⟨b, o + 4, none⟩ = some (.int .i64 x.i.stamp) ∧ w.cell? ⟨b, o + 5, none⟩ = some (.slice x.rp x.rn x.rc) ∧ w.cell? ⟨b, o + 6, none⟩ = some (.slice x.ep x.en x.ec) ∧ w.cell? ⟨b, o + 7, none⟩ = some (.int .i64 x.i.next)
theorem eight.below {w w' : World} {b o B : Nat} {x : Rw} (h : eight w b o x) (hb : Below B w w') (hB : b < B) : eight w' b o x := by
  obtain ⟨h0, h1, h2, h3, h4, h5, h6, h7⟩ := h
  exact ⟨(hb.cell (p := ⟨b, o, none⟩) hB).trans h0, (hb.cell (p := ⟨b, o + 1, none⟩) hB).trans h1, (hb.cell (p := ⟨b, o + 2, none⟩) hB).trans h2, (hb.cell (p := ⟨b, o + 3, none⟩) hB).trans h3,
    (hb.cell (p := ⟨b, o + 4, none⟩) hB).trans h4, (hb.cell (p := ⟨b, o + 5, none⟩) hB).trans h5, (hb.cell (p := ⟨b, o + 6, none⟩) hB).trans h6, (hb.cell (p := ⟨b, o + 7, none⟩) hB).trans h7⟩
theorem TabAt.open {S : Nat → Prop} {w : World} {v : Value} {L : List Rw} (h : TabAt S w v L) : ∃ ao cap, v = .slice ao L.length cap ∧ L.length ≤ maxLen ∧
    ∀ i x, L[i]? = some x → (∃ b off, ao = some ⟨b, off, none⟩ ∧ b < w.heap.size ∧ eight w b (off + i * 8) x) ∧ Good S w x := by
  obtain ⟨ao, cap, hv, hm, hx⟩ := h.1.open
  refine ⟨ao, cap, hv, hm, fun i x hi => ⟨?_, h.2 x (List.mem_of_getElem? hi)⟩⟩
  obtain ⟨b, off, ha, _, hb, hc⟩ := hx i x hi
  refine ⟨b, off, ha, hb, ?_⟩
  have c : ∀ k u, (EI.cells x)[k]? = some u → w.cell? ⟨b, off + i * 8 + k, none⟩ = some u := fun k u hu => by
    rw [Nat.add_assoc]
    exact hc k u hu
  exact ⟨c 0 _ rfl, c 1 _ rfl, c 2 _ rfl, c 3 _ rfl, c 4 _ rfl, c 5 _ rfl, c 6 _ rfl, c 7 _ rfl⟩
end Go.Proofs.YtacghcoikekfeaaGreat
