/- FNamed, FFind, FFindB, FAddA, FAdd, FRem, Sp3, SAttr, Sp4, Sp5, Sp7, Sp8, Sp9, Sp11, Sp12, Sp14, Sp15, Sp17, Sp18, Sp20, Sp21, RefBase, SRef1, Chk, OPlain, OBase, as one. -/
import Derived.Test.YtggoccfddnpelaaGreatQ7
namespace Go.Proofs.YtggoccfddnpelaaGreat
open Go.ChangeShapes Go.WideShapes Go.ChangeAt Go.RowKit Go.Deep
set_option maxRecDepth 100000
namespace Fo
/-- The place of the first entry that p knows; -1: none. -/
def at' (p : Ent → Bool) (l : List Ent) : Int := match l.findIdx? p with | some k => (k : Int) | none => -1
theorem at_or (p : Ent → Bool) (l : List Ent) : (at' p l = -1 ∧ ∀ x ∈ l, p x = false) ∨ ∃ (k : Nat) (x : Ent), at' p l = k ∧ l[k]? = some x ∧ p x = true ∧ ∀ j y, j < k → l[j]? = some y → p y = false := by
  unfold at'
  cases h : l.findIdx? p with
  | none => exact .inl ⟨rfl, List.findIdx?_eq_none_iff.1 h⟩
  | some k =>
    obtain ⟨hk, h1, h2⟩ := List.findIdx?_eq_some_iff_getElem.1 h
    refine .inr ⟨k, l[k], rfl, List.getElem?_eq_getElem hk, h1, fun j y hj hy => ?_⟩
    have := h2 j hj
    rw [(List.getElem?_eq_some_iff.1 hy).2] at this
    simpa using this
def called (s : ByteArray) (x : Ent) : Bool := x.1.toList == s.toList
def past (c : Int) (x : Ent) : Bool := decide (c < x.2.1)
/-- What is wrong with a folder or a name. -/
noncomputable def ask (l : List Ent) (next : Int) (s : ByteArray) : Int := if Fo.err l next = 0 then Nm.err s else 4
theorem ask_wrong {l : List Ent} {next : Int} {s : ByteArray} (h : Fo.err l next = 4) : ask l next s = 4 := by unfold ask; rw [if_neg (by rw [h]; decide)]
theorem ask_right {l : List Ent} {next : Int} {s : ByteArray} (h : Fo.err l next = 0) : ask l next s = Nm.err s := by unfold ask; rw [if_pos h]
end Fo
abbrev VF (f b : Nat) : Value := .func (Fn.func f) #[] #[.pointer (some ⟨b, 0, none⟩)]
abbrev VE (x : Ent) : Value := .agg #[.string x.1, .int .i64 x.2.1, .int .i64 x.2.2.1, .int .i64 x.2.2.2]
namespace Fo
theorem ask_or (l : List Ent) (next : Int) (s : ByteArray) : (ask l next s = 0 ∧ Right l next ∧ Nm.ok s) ∨ (ask l next s = 4 ∧ ¬ Right l next) ∨ (ask l next s = 409 ∧ Right l next ∧ ¬ Nm.ok s) := by
  rcases err_or l next with ⟨h, hr⟩ | ⟨h, hr⟩
  · rcases Nm.err_or s with ⟨k, ho⟩ | ⟨k, ho⟩
    · exact .inl ⟨(ask_right h).trans k, hr, ho⟩
    · exact .inr (.inr ⟨(ask_right h).trans k, hr, ho⟩)
  · exact .inr (.inl ⟨ask_wrong h, hr⟩)
noncomputable def findErr (l : List Ent) (next : Int) (s : ByteArray) : Int := if ask l next s = 0 then (if at' (called s) l = -1 then 402 else 0) else ask l next s
noncomputable def plc (l : List Ent) (next : Int) (s : ByteArray) : Int := if findErr l next s = 0 then at' (called s) l else 0
end Fo
theorem cell_next {w w' : World} {b j : Nat} {v : Value} (h : w.cell? ⟨b, j, none⟩ = some v) (hb : Below w.heap.size w w') (hl : b < w.heap.size) : w'.cell? ⟨b, j, none⟩ = some v := (hb.cell (p := ⟨b, j, none⟩) hl).trans h
theorem cell_lt {w : World} {b j : Nat} {v : Value} (h : w.cell? ⟨b, j, none⟩ = some v) : b < w.heap.size := by
  unfold World.cell? at h
  by_cases hb : b < w.heap.size
  · exact hb
  · rw [Array.getElem?_eq_none (by simpa using hb)] at h
    simp at h
theorem cell_step {w w' : World} {b j : Nat} {v : Value} (h : w.cell? ⟨b, j, none⟩ = some v) (hb : Below w.heap.size w w') : w'.cell? ⟨b, j, none⟩ = some v := cell_next h hb (cell_lt h)
theorem undrew {w w' : World} (h : Below w.drew.heap.size w.drew w') : Below w.heap.size w w' := ⟨h.os, h.tape, h.output, h.size, h.block⟩
namespace Fo
def zeroE : Ent := (⟨#[]⟩, 0, 0, 0)
noncomputable def found (l : List Ent) (next : Int) (s : ByteArray) : Ent := if findErr l next s = 0 then l.getD (plc l next s).toNat zeroE else zeroE
end Fo
theorem four_of {w : World} {A : Nat} {x : Ent} (h : w.heap[A]? = some (BE x)) :
    (w.cell? ⟨A, 0, none⟩ = some (.string x.1) ∧ w.cell? ⟨A, 1, none⟩ = some (.int .i64 x.2.1) ∧ w.cell? ⟨A, 2, none⟩ = some (.int .i64 x.2.2.1) ∧ w.cell? ⟨A, 3, none⟩ = some (.int .i64 x.2.2.2)) ∧ ∀ j, w.frozen? ⟨A, j, none⟩ = false := by
  refine ⟨⟨?_, ?_, ?_, ?_⟩, fun j => ?_⟩ <;> simp [World.cell?, World.frozen?, h]
namespace Fo
noncomputable def addErr (l : List Ent) (next : Int) (s : ByteArray) (no gen : Int) : Int :=
  if ask l next s = 0 then (if Ho no gen then (if at' (called s) l = -1 then (if next = 1099511627776 then 407 else 0) else 403) else 1) else ask l next s
theorem add_ask {l : List Ent} {next : Int} {s : ByteArray} {no gen e : Int} (h : ask l next s = e) (he : e ≠ 0) : addErr l next s no gen = e := by unfold addErr; rw [if_neg (by rw [h]; exact he), h]
theorem add_ho {l : List Ent} {next : Int} {s : ByteArray} {no gen : Int} (h : ask l next s = 0) (ho : ¬ Ho no gen) : addErr l next s no gen = 1 := by unfold addErr; rw [if_pos h, if_neg ho]
theorem add_has {l : List Ent} {next : Int} {s : ByteArray} {no gen : Int} {k : Nat} (h : ask l next s = 0) (ho : Ho no gen) (ha : at' (called s) l = k) : addErr l next s no gen = 403 := by unfold addErr; rw [if_pos h, if_pos ho, if_neg (by rw [ha]; omega)]
theorem add_full {l : List Ent} {next : Int} {s : ByteArray} {no gen : Int} (h : ask l next s = 0) (ho : Ho no gen) (ha : at' (called s) l = -1) (hn : next = 1099511627776) : addErr l next s no gen = 407 := by unfold addErr; rw [if_pos h, if_pos ho, if_pos ha, if_pos hn]
end Fo
namespace Fo
theorem right_len {l : List Ent} {next : Int} (h : Right l next) : (l.length : Int) ≤ next := by
  have key : ∀ k : Nat, k ≤ l.length → (k : Int) ≤ lastC l k := fun k => by
    induction k with
    | zero => intro _; exact Int.le_refl _
    | succ k ih =>
      intro hk
      have hx : l[k]? = some l[k] := List.getElem?_eq_getElem (by omega)
      have hg := h.2.1 k (by omega) _ hx
      have := ih (by omega)
      rw [lastC_succ hx]
      omega
  have h1 := key l.length (Nat.le_refl _)
  have h2 := (lastC_bd h.2.1 (Nat.le_refl _) h.1.1).2
  omega
theorem add_zero {l : List Ent} {next : Int} {s : ByteArray} {no gen : Int} (h : addErr l next s no gen = 0) : Right l next ∧ Nm.ok s ∧ Ho no gen ∧ at' (called s) l = -1 ∧ next ≠ 1099511627776 := by
  rcases ask_or l next s with ⟨ha, hr, ho⟩ | ⟨ha, -⟩ | ⟨ha, -, -⟩
  · by_cases hh : Ho no gen
    · rcases at_or (called s) l with ⟨ht, -⟩ | ⟨k, x, ht, -, -, -⟩
      · by_cases hx : next = 1099511627776
        · rw [add_full ha hh ht hx] at h
          cases h
        · exact ⟨hr, ho, hh, ht, hx⟩
      · rw [add_has ha hh ht] at h
        cases h
    · rw [add_ho ha hh] at h
      cases h
  · rw [add_ask ha (by decide)] at h
    cases h
  · rw [add_ask ha (by decide)] at h
    cases h
end Fo
abbrev Two (D : Nat) (v : Value) (n : Int) (w : World) : Prop := w.cell? ⟨D, 0, none⟩ = some v ∧ w.cell? ⟨D, 1, none⟩ = some (.int .i64 n)
theorem At.cut {α : Type} {E : Enc α} {S : Nat → Prop} {w : World} {b off m cap : Nat} {l : List α} (h : At E S w (.slice (some ⟨b, off, none⟩) m cap) l) {lo hi : Nat} (h1 : lo ≤ hi) (h2 : hi ≤ m) : At E S w (sliced (some ⟨b, off, none⟩) lo hi cap E.sz) ((l.take hi).drop lo) := by
  by_cases he : hi = lo
  · have hz : (l.take hi).drop lo = [] := by
      apply List.eq_nil_of_length_eq_zero
      simp
      omega
    unfold sliced
    rw [hz, show hi - lo = 0 by omega]
    exact .inl ⟨_, _, rfl, rfl⟩
  · rcases h with ⟨ao, c, hv, rfl⟩ | ⟨b', off', c', hv, hS, hb, hp, hc, hm, hx⟩
    · simp only [Value.slice.injEq] at hv
      omega
    · simp only [Value.slice.injEq, Option.some.injEq, Addr.mk.injEq, and_true] at hv
      obtain ⟨⟨rfl, rfl⟩, rfl, rfl⟩ := hv
      have hlen : ((l.take hi).drop lo).length = hi - lo := by simp; omega
      refine .inr ⟨b, off + lo * E.sz, cap - lo, ?_, hS, hb, by omega, by omega, by omega, fun j u hj => ?_⟩
      · rw [hlen]
        unfold sliced
        rw [if_neg (by omega)]
        simp [WideShapes.add_plain]
      · have e : l = l.take lo ++ ((l.take hi).drop lo ++ l.drop hi) := by
          have e1 : l.take lo = (l.take hi).take lo := by rw [List.take_take, Nat.min_eq_left h1]
          rw [← List.append_assoc, e1, List.take_append_drop, List.take_append_drop]
        have hlt := (List.getElem?_eq_some_iff.1 hj).1
        have hl0 : (E.flat (l.take lo)).length = lo * E.sz := by rw [E.flat_length, List.length_take, Nat.min_eq_left (by omega)]
        have := hx (lo * E.sz + j) u (by
          rw [e, E.flat_append, E.flat_append, List.getElem?_append_right (by omega), hl0, show lo * E.sz + j - lo * E.sz = j by omega, List.getElem?_append_left hlt]
          exact hj)
        rwa [← Nat.add_assoc] at this
end Go.Proofs.YtggoccfddnpelaaGreat
namespace Go.Proofs.YtggoccfddnpelaaGreat
open Go.ChangeShapes Go.WideShapes Go.ChangeAt Go.RowKit Go.Deep It
set_option maxRecDepth 100000
namespace Sp
def dirErr (L : List Ino) (a b : Int) : Int := if findErr L a b = 0 then (if (findI L a b).kind = 2 then 0 else 404) else findErr L a b
def dirEnts (L : List Ino) (a b : Int) : List Ent := if dirErr L a b = 0 then (findI L a b).ents else []
def dirNext (L : List Ino) (a b : Int) : Int := if dirErr L a b = 0 then (findI L a b).next else 0
noncomputable def lookErr (L : List Ino) (a b : Int) (s : ByteArray) : Int := if dirErr L a b = 0 then Fo.findErr (dirEnts L a b) (dirNext L a b) s else dirErr L a b
noncomputable def lookH (L : List Ino) (a b : Int) (s : ByteArray) : Int × Int := if dirErr L a b = 0 then (Fo.found (dirEnts L a b) (dirNext L a b) s).2.2 else (0, 0)
noncomputable def nameErr (L : List Ino) (a b : Int) (s : ByteArray) : Int := if lookErr L a b s = 0 then 403 else if lookErr L a b s = 402 then 0 else lookErr L a b s
end Sp
end Go.Proofs.YtggoccfddnpelaaGreat
namespace Go.Proofs.YtggoccfddnpelaaGreat
open Go.ChangeShapes Go.WideShapes Go.ChangeAt Go.RowKit Go.Deep
set_option maxRecDepth 100000
/-- What Link tells. -/
def At.linkErr (k l s t n st : Int) : Int :=
  if At.right k l s t then
    if (n = 1 ∨ n = -1) ∧ (t ≤ st ∧ st ≤ 1099511627776) then
      if k = 1 then if 64 < l + n then 5 else if l + n < 0 then 6 else 0
      else 7
    else 1
  else 70
/-- What Grow tells. -/
def At.growErr (k l s t n st : Int) : Int :=
  if At.right k l s t then
    if t ≤ st ∧ st ≤ 1099511627776 then
      if k = 0 then 7 else if 0 ≤ n ∧ n ≤ 1048576 then 0 else 408
    else 1
  else 70
end Go.Proofs.YtggoccfddnpelaaGreat
namespace Go.Proofs.YtggoccfddnpelaaGreat
open Go.ChangeShapes Go.WideShapes Go.ChangeAt Go.RowKit Go.Deep It
set_option maxRecDepth 100000
/-- A file with a link more, or less. -/
def Sp.linked (x : Ino) (n st : Int) : Ino := ⟨x.gen, x.kind, x.links + n, x.size, st, x.runs, x.ents, x.next⟩
/-- A folder with other entries. -/
def Sp.filled (x : Ino) (es : List Ent) (nx st : Int) : Ino := ⟨x.gen, x.kind, x.links, es.length, st, x.runs, es, nx⟩
theorem bel_drew {B : Nat} {w w' : World} (h : Below B w w') : Below B w w'.drew := ⟨h.os, h.tape, h.output, h.size, h.block⟩
/-- What Check answers, as it is proved elsewhere. -/
def ChkSaid (C : List Ino → Int) : Prop := ∀ (S : Nat → Prop) (v : Value) (L : List Rw) (w : World), TabAt S w v L → Sp.okN L → Calls Tryz.prog 62 #[v] w fun e w' => e = .returned (.int .i64 (C (pl L))) ∧ Below w.heap.size w w'
namespace Sp
/-- The greatest stamp. -/
def top (L : List Ino) : Int := L.foldl (fun m x => max m x.stamp) 0
def stErr (C : List Ino → Int) (L : List Ino) (st : Int) : Int := if C L = 0 then (if top L ≤ st ∧ st ≤ 1099511627776 then 0 else 1) else C L
end Sp
namespace Sp
noncomputable def toErr (C : List Ino → Int) (L : List Ino) (st a b : Int) (s : ByteArray) : Int := if stErr C L st = 0 then lookErr L a b s else stErr C L st
noncomputable def toH (C : List Ino → Int) (L : List Ino) (st a b : Int) (s : ByteArray) : Int × Int := if stErr C L st = 0 then lookH L a b s else (0, 0)
noncomputable def makeErr (C : List Ino → Int) (L : List Ino) (a b : Int) (s : ByteArray) (kind st : Int) : Int := if stErr C L st = 0 then (if kind = 1 ∨ kind = 2 then nameErr L a b s else 1) else stErr C L st
end Sp
noncomputable def Sp.linkErr (C : List Ino → Int) (L : List Ino) (a b c d : Int) (s : ByteArray) (st : Int) : Int :=
  if stErr C L st = 0 then (if findErr L a b = 0 then (if (findI L a b).kind = 2 then 405 else if nameErr L c d s = 0 then (if (findI L a b).links = 64 then 407 else 0) else nameErr L c d s) else findErr L a b) else stErr C L st
namespace Sp
theorem pl_some {L : List Rw} {k : Nat} {x : Ino} (h : (pl L)[k]? = some x) : ∃ y : Rw, L[k]? = some y ∧ y.i = x := by
  rw [List.getElem?_map] at h
  cases hy : L[k]? with
  | none => rw [hy] at h; cases h
  | some y =>
    rw [hy] at h
    exact ⟨y, rfl, by simpa using h⟩
end Sp
namespace Sp
/-- What Link tells. -/
noncomputable def linkE (C : List Ino → Int) (L : List Ino) (a b c d : Int) (s : ByteArray) (st : Int) : Int :=
  if linkErr C L a b c d s st = 0 then Fo.addErr (dirEnts L c d) (dirNext L c d) s a b else linkErr C L a b c d s st
noncomputable def linkT (C : List Ino → Int) (L : List Ino) (a b c d : Int) (s : ByteArray) (st : Int) : List Ino :=
  if linkE C L a b c d s st = 0 then
    (L.set c.toNat (filled (findI L c d) ((findI L c d).ents ++ [(s, (findI L c d).next + 1, a, b)]) ((findI L c d).next + 1) st)).set a.toNat (linked (findI L a b) 1 st)
  else []
end Sp
namespace Sp
/-- What Rmdir tells. -/
noncomputable def rmE (C : List Ino → Int) (L : List Ino) (a b : Int) (s : ByteArray) (st : Int) : Int :=
  if toErr C L st a b s = 0 then (if (findI L (toH C L st a b s).1 (toH C L st a b s).2).kind = 2 then (if (findI L (toH C L st a b s).1 (toH C L st a b s).2).ents = [] then 0 else 406) else 404) else toErr C L st a b s
noncomputable def lessDir (L : List Ino) (a b : Int) (s : ByteArray) (st : Int) : List Ino :=
  L.set a.toNat (filled (findI L a b) ((findI L a b).ents.eraseIdx (Fo.plc (findI L a b).ents (findI L a b).next s).toNat) (findI L a b).next st)
noncomputable def rmT (C : List Ino → Int) (L : List Ino) (a b : Int) (s : ByteArray) (st : Int) : List Ino :=
  if rmE C L a b s st = 0 then (lessDir L a b s st).set (toH C L st a b s).1.toNat (gone (toH C L st a b s).2) else []
end Sp
namespace Sp
/-- What Unlink tells. -/
noncomputable def ulE (C : List Ino → Int) (L : List Ino) (a b : Int) (s : ByteArray) (st : Int) : Int :=
  if toErr C L st a b s = 0 then (if (findI L (toH C L st a b s).1 (toH C L st a b s).2).kind = 2 then 405 else 0) else toErr C L st a b s
noncomputable def ulT (C : List Ino → Int) (L : List Ino) (a b : Int) (s : ByteArray) (st : Int) : List Ino :=
  if ulE C L a b s st = 0 then (lessDir L a b s st).set (toH C L st a b s).1.toNat (linked (findI L (toH C L st a b s).1 (toH C L st a b s).2) (-1) st) else []
noncomputable def ulH (C : List Ino → Int) (L : List Ino) (a b : Int) (s : ByteArray) (st : Int) : Int × Int := if ulE C L a b s st = 0 then toH C L st a b s else (0, 0)
end Sp
namespace Sp
/-- What Make tells. -/
noncomputable def mkE (C : List Ino → Int) (L : List Ino) (a b : Int) (s : ByteArray) (kind st : Int) : Int :=
  if makeErr C L a b s kind st = 0 then (if It.makeErr L kind st = 0 then Fo.addErr (dirEnts L a b) (dirNext L a b) s (makeH L kind st).1 (makeH L kind st).2 else It.makeErr L kind st) else makeErr C L a b s kind st
noncomputable def mkT (C : List Ino → Int) (L : List Ino) (a b : Int) (s : ByteArray) (kind st : Int) : List Ino :=
  if mkE C L a b s kind st = 0 then
    (makeTab L kind st).set a.toNat (filled (findI L a b) ((findI L a b).ents ++ [(s, (findI L a b).next + 1, (makeH L kind st).1, (makeH L kind st).2)]) ((findI L a b).next + 1) st)
  else []
end Sp
noncomputable def Sp.moveErr (I : List Ino → Int → Int → Bool) (L : List Ino) (no a b : Int) (s : ByteArray) : Int := if (nameErr L a b s = 0 ∨ nameErr L a b s = 403) ∧ I L no a = true then 410 else nameErr L a b s
namespace Sp
/-- The folder that a name moves to, in the table that has a name less. -/
noncomputable def midI (L : List Ino) (a b : Int) (s : ByteArray) (st c : Int) : Ino := ((lessDir L a b s st)[c.toNat]?).getD zeroI
/-- What Rename tells. -/
noncomputable def rnE (C : List Ino → Int) (I : List Ino → Int → Int → Bool) (L : List Ino) (a b : Int) (s : ByteArray) (c d : Int) (s2 : ByteArray) (st : Int) : Int :=
  if toErr C L st a b s = 0 then (if moveErr I L (toH C L st a b s).1 c d s2 = 0 then Fo.addErr (midI L a b s st c).ents (midI L a b s st c).next s2 (toH C L st a b s).1 (toH C L st a b s).2 else moveErr I L (toH C L st a b s).1 c d s2) else toErr C L st a b s
noncomputable def rnT (C : List Ino → Int) (I : List Ino → Int → Int → Bool) (L : List Ino) (a b : Int) (s : ByteArray) (c d : Int) (s2 : ByteArray) (st : Int) : List Ino :=
  if rnE C I L a b s c d s2 st = 0 then (lessDir L a b s st).set c.toNat (filled (midI L a b s st c) ((midI L a b s st c).ents ++ [(s2, (midI L a b s st c).next + 1, (toH C L st a b s).1, (toH C L st a b s).2)]) ((midI L a b s st c).next + 1) st) else []
end Sp
end Go.Proofs.YtggoccfddnpelaaGreat
namespace Go.Proofs.YtggoccfddnpelaaGreat
open Go.ChangeShapes Go.WideShapes Go.ChangeAt Go.RowKit Go.Deep
set_option maxRecDepth 100000
set_option maxHeartbeats 1000000 in
theorem runs_same (u v : Value) (l : List Bl.R) (w : World) (hu : FieldsAt w.heap.size w u l) (hv : FieldsAt w.heap.size w v l) :
    Calls Tryz.prog 39 #[u, v] w fun e w' => e = .returned (.bool true) ∧ Below w.heap.size w w' := by
  obtain ⟨ao, cap, rfl, hm, hx⟩ := hu.open
  obtain ⟨bo, cap', rfl, _, hy⟩ := hv.open
  clear hu hv
  unfold maxLen at hm
  obtain ⟨n, hn⟩ : ∃ n, l.length = n := ⟨_, rfl⟩
  rw [hn] at hm hx hy ⊢
  have HX : Hid (∀ j, j < n → ∃ b off, ao = some ⟨b, off, none⟩ ∧ b < w.heap.size ∧ w.cell? ⟨b, off + j * 2, none⟩ = some (.int .i64 (l.getD j (0, .empty)).1) ∧ w.cell? ⟨b, off + j * 2 + 1, none⟩ = some (.string (l.getD j (0, .empty)).2)) := hx
  have HY : Hid (∀ j, j < n → ∃ b off, bo = some ⟨b, off, none⟩ ∧ b < w.heap.size ∧ w.cell? ⟨b, off + j * 2, none⟩ = some (.int .i64 (l.getD j (0, .empty)).1) ∧ w.cell? ⟨b, off + j * 2 + 1, none⟩ = some (.string (l.getD j (0, .empty)).2)) := hy
  clear hn hx hy
  go_enter Tryz.func39, Tryz.ntmps39
  go_wp2
  go_loopw [8] (fun i wr => ∃ k : Nat, k ≤ n ∧ i = .int .i64 k ∧ Below w.heap.size w wr) (fun i _ => n - (intOf i).toNat)
  case atStart => exact ⟨0, Nat.zero_le _, rfl, Below.refl _ _⟩
  case round =>
    obtain ⟨k, hk, rfl, hbl⟩ := hrel
    by_cases hlt : k < n
    · obtain ⟨b, off, rfl, hB, c0, c1⟩ := HX.out k hlt
      obtain ⟨b', off', rfl, hB', d0, d1⟩ := HY.out k hlt
      rw [← hbl.cell (p := ⟨b, off + k * 2, none⟩) hB] at c0
      rw [← hbl.cell (p := ⟨b, off + k * 2 + 1, none⟩) hB] at c1
      rw [← hbl.cell (p := ⟨b', off' + k * 2, none⟩) hB'] at d0
      rw [← hbl.cell (p := ⟨b', off' + k * 2 + 1, none⟩) hB'] at d1
      generalize l.getD k (0, .empty) = f at c0 c1 d0 d1
      obtain ⟨t, s⟩ := f
      have hlt' : (k : Int) < (n : Int) := by omega
      have hge : decide ((n : Int) ≤ (k : Int)) = false := by simp; omega
      have hge2 : decide (n ≤ k) = false := by simp; omega
      go_wp2
      go_quiet (fail)
      go_wp2
      go_roundw
      case rel => exact ⟨k + 1, by omega, by go_num, Go.below_drewN hbl _⟩
      case measure => simp [intOf]; omega
    · obtain rfl : k = n := by omega
      go_wp2
      go_ret
      exact ⟨by simp, hbl⟩
end Go.Proofs.YtggoccfddnpelaaGreat
namespace Go.Proofs.YtggoccfddnpelaaGreat
open Go.ChangeShapes Go.WideShapes Go.ChangeAt Go.RowKit Go.Deep It
set_option maxRecDepth 100000
def Sp.chk (R : List Ino → Bool) (L : List Ino) : Int := if R L = true then 0 else 4
theorem checkErr_or (L : List Ino) : (It.checkErr L = 0 ∧ It.right L = true) ∨ (It.checkErr L = 4 ∧ It.right L = false) := by
  unfold It.checkErr
  cases h : It.right L
  · exact .inr ⟨rfl, rfl⟩
  · exact .inl ⟨rfl, rfl⟩
set_option maxHeartbeats 4000000 in
theorem scheck_any : ChkSaid (Sp.chk Sp.isSp) := by
  intro S v L w hv hok
  have HV : Hid (TabAt S w v L) := hv
  have HOK : Hid (Sp.okN L) := hok
  obtain ⟨ao, cap, rfl, -, -⟩ := hv.open
  clear hv hok
  rcases checkErr_or (pl L) with ⟨hc, hr⟩ | ⟨hc, hr⟩
  · have HC : Hid (It.checkErr (pl L) = 0) := hc
    have HR : Hid (It.right (pl L) = true) := hr
    clear hc hr
    cases hf : Sp.foldsB (pl L) with
    | true =>
      have HF : Hid (Sp.foldsB (pl L) = true) := hf
      cases hn : Sp.cntB (pl L) with
      | true =>
        have HN : Hid (Sp.cntB (pl L) = true) := hn
        have HT : Hid (Sp.Tree (pl L)) := Sp.tree_of HR.out (Sp.foldsB_iff.1 hf) hn
        have hl := (Sp.right_len HR.out).2
        have HL : Hid (L.length ≤ 24) := by show L.length ≤ 24; rwa [List.length_map] at hl
        have HD : Hid (Sp.deep (pl L) 24 0) := Sp.deep_all HT.out hl (show Sp.Anc (pl L) 0 0 0 from rfl) (Sp.dirAt_lt HT.out.root)
        have HLN : Hid ((Sp.walk (pl L) 24 0 ⟨#[]⟩).length ≤ 24) := Nat.le_trans (Sp.walk_len HT.out 24 ⟨#[]⟩) (by rw [← Sp.count_dirs]; exact Nat.le_trans List.countP_le_length hl)
        obtain ⟨q, hq⟩ : ∃ q, Sp.reachB (pl L) = q := ⟨_, rfl⟩
        have HQ : Hid (Sp.reachB (pl L) = q) := hq
        have hres : Sp.chk Sp.isSp (pl L) = if q = true then 0 else 4 := by
          unfold Sp.chk Sp.isSp
          rw [HR.out, hf, hn, hq]
          rfl
        rw [hres]
        clear hres hq hl hf hn
        cases q with
        | true =>
          rw [if_pos rfl]
          go_enter Tryz.func62, Tryz.ntmps62
          go_wp2_with fail
          refine (check_any _ L _ HV.out).mono ?_
          rintro e w1 ⟨rfl, hb⟩
          rw [HC.out]
          have HB1 : Hid (Below w.heap.size w w1) := hb
          clear hb
          go_wp2_with fail
          refine (rightFolders_any _ L _ (HV.out.up HB1.out) HOK.out).mono ?_
          rintro e w2 ⟨rfl, hb⟩
          rw [HF.out]
          have HB2 : Hid (Below w.heap.size w w2) := HB1.out.trans (hb.mono HB1.out.size)
          clear hb
          go_wp2_with fail
          refine (counted_any _ L _ (HV.out.up HB2.out) HR.out).mono ?_
          rintro e w3 ⟨rfl, hb⟩
          rw [HN.out]
          have HB3 : Hid (Below w.heap.size w w3) := HB2.out.trans (hb.mono HB2.out.size)
          clear hb
          go_wp2_with fail
          refine (reached_any _ L _ (HV.out.up HB3.out) HD.out HL.out HLN.out).mono ?_
          rintro e w4 ⟨rfl, hb⟩
          rw [show (((Sp.walk (pl L) 24 0 ⟨#[]⟩).length : Int) - ((pl L).countP (fun x => x.kind == 2) : Nat) == 0) = true from HQ.out]
          have HB4 : Hid (Below w.heap.size w w4) := HB3.out.trans (hb.mono HB3.out.size)
          clear hb
          go_wp2
          go_ret
          exact ⟨rfl, HB4.out⟩
        | false =>
          rw [if_neg (by decide)]
          go_enter Tryz.func62, Tryz.ntmps62
          go_wp2_with fail
          refine (check_any _ L _ HV.out).mono ?_
          rintro e w1 ⟨rfl, hb⟩
          rw [HC.out]
          have HB1 : Hid (Below w.heap.size w w1) := hb
          clear hb
          go_wp2_with fail
          refine (rightFolders_any _ L _ (HV.out.up HB1.out) HOK.out).mono ?_
          rintro e w2 ⟨rfl, hb⟩
          rw [HF.out]
          have HB2 : Hid (Below w.heap.size w w2) := HB1.out.trans (hb.mono HB1.out.size)
          clear hb
          go_wp2_with fail
          refine (counted_any _ L _ (HV.out.up HB2.out) HR.out).mono ?_
          rintro e w3 ⟨rfl, hb⟩
          rw [HN.out]
          have HB3 : Hid (Below w.heap.size w w3) := HB2.out.trans (hb.mono HB2.out.size)
          clear hb
          go_wp2_with fail
          refine (reached_any _ L _ (HV.out.up HB3.out) HD.out HL.out HLN.out).mono ?_
          rintro e w4 ⟨rfl, hb⟩
          rw [show (((Sp.walk (pl L) 24 0 ⟨#[]⟩).length : Int) - ((pl L).countP (fun x => x.kind == 2) : Nat) == 0) = false from HQ.out]
          have HB4 : Hid (Below w.heap.size w w4) := HB3.out.trans (hb.mono HB3.out.size)
          clear hb
          go_wp2
          go_ret
          exact ⟨rfl, HB4.out⟩
      | false =>
        have HN : Hid (Sp.cntB (pl L) = false) := hn
        have hres : Sp.chk Sp.isSp (pl L) = 4 := by
          unfold Sp.chk Sp.isSp
          rw [HR.out, hf, hn]
          rfl
        rw [hres]
        clear hres hf hn
        go_enter Tryz.func62, Tryz.ntmps62
        go_wp2_with fail
        refine (check_any _ L _ HV.out).mono ?_
        rintro e w1 ⟨rfl, hb⟩
        rw [HC.out]
        have HB1 : Hid (Below w.heap.size w w1) := hb
        clear hb
        go_wp2_with fail
        refine (rightFolders_any _ L _ (HV.out.up HB1.out) HOK.out).mono ?_
        rintro e w2 ⟨rfl, hb⟩
        rw [HF.out]
        have HB2 : Hid (Below w.heap.size w w2) := HB1.out.trans (hb.mono HB1.out.size)
        clear hb
        go_wp2_with fail
        refine (counted_any _ L _ (HV.out.up HB2.out) HR.out).mono ?_
        rintro e w3 ⟨rfl, hb⟩
        rw [HN.out]
        have HB3 : Hid (Below w.heap.size w w3) := HB2.out.trans (hb.mono HB2.out.size)
        clear hb
        go_wp2
        go_ret
        exact ⟨rfl, HB3.out⟩
    | false =>
      have HF : Hid (Sp.foldsB (pl L) = false) := hf
      have hres : Sp.chk Sp.isSp (pl L) = 4 := by
        unfold Sp.chk Sp.isSp
        rw [HR.out, hf]
        rfl
      rw [hres]
      clear hres hf
      go_enter Tryz.func62, Tryz.ntmps62
      go_wp2_with fail
      refine (check_any _ L _ HV.out).mono ?_
      rintro e w1 ⟨rfl, hb⟩
      rw [HC.out]
      have HB1 : Hid (Below w.heap.size w w1) := hb
      clear hb
      go_wp2_with fail
      refine (rightFolders_any _ L _ (HV.out.up HB1.out) HOK.out).mono ?_
      rintro e w2 ⟨rfl, hb⟩
      rw [HF.out]
      have HB2 : Hid (Below w.heap.size w w2) := HB1.out.trans (hb.mono HB1.out.size)
      clear hb
      go_wp2
      go_ret
      exact ⟨rfl, HB2.out⟩
  · have HC : Hid (It.checkErr (pl L) = 4) := hc
    have hres : Sp.chk Sp.isSp (pl L) = 4 := by
      unfold Sp.chk Sp.isSp
      rw [hr]
      rfl
    rw [hres]
    clear hres hc hr
    go_enter Tryz.func62, Tryz.ntmps62
    go_wp2_with fail
    refine (check_any _ L _ HV.out).mono ?_
    rintro e w1 ⟨rfl, hb⟩
    rw [HC.out]
    go_wp2
    go_ret
    exact ⟨rfl, hb⟩
/-- Is a folder below an inode, or the inode itself? -/
def Sp.insB (L : List Ino) (no tq : Int) : Bool := (Sp.walk L 24 no.toNat ⟨#[]⟩).any fun z => (z.1 : Int) == tq
end Go.Proofs.YtggoccfddnpelaaGreat
namespace Go.Proofs.YtggoccfddnpelaaGreat.Os
open Go.RowKit
set_option maxRecDepth 100000
/-- An open file: its number, the client, the handle's number and generation. -/
abbrev Opn := Int × Int × Int × Int
def EO : Enc Opn := ⟨4, fun x => [.int .i64 x.1, .int .i64 x.2.1, .int .i64 x.2.2.1, .int .i64 x.2.2.2], fun _ => rfl, fun x u hu => by
  simp at hu
  rcases hu with rfl | rfl | rfl | rfl <;> rfl⟩
/-- A handle that an open file may be of. -/
def Ho (no gen : Int) : Prop := (0 ≤ no ∧ no ≤ 23) ∧ (1 ≤ gen ∧ gen ≤ 1099511627776)
instance (no gen : Int) : Decidable (Ho no gen) := by unfold Ho; infer_instance
namespace Op
/-- A client that may be. -/
def Cl (c : Int) : Prop := 0 ≤ c ∧ c ≤ 1099511627776
instance (c : Int) : Decidable (Cl c) := by unfold Cl; infer_instance
def good (t : Int) (x : Opn) : Prop := (t ≤ x.1 ∧ x.1 ≤ 15) ∧ Cl x.2.1 ∧ Ho x.2.2.1 x.2.2.2
instance (t : Int) (x : Opn) : Decidable (good t x) := by unfold good; infer_instance
def right (t : Int) : List Opn → Bool
  | [] => true
  | x :: r => decide (good t x) && right (x.1 + 1) r
theorem drop_at {α : Type} {l : List α} {k : Nat} {x : α} (h : l[k]? = some x) : l.drop k = x :: l.drop (k + 1) := by
  obtain ⟨hk, rfl⟩ := List.getElem?_eq_some_iff.1 h
  exact List.drop_eq_getElem_cons hk
theorem take_at {α : Type} {l : List α} {k : Nat} {x : α} (h : l[k]? = some x) : l.take (k + 1) = l.take k ++ [x] := by
  rw [List.take_add_one, h]
  rfl
theorem right_yes {l : List Opn} {k : Nat} {x : Opn} {t : Int} (h : l[k]? = some x) (hg : good t x) : right t (l.drop k) = right (x.1 + 1) (l.drop (k + 1)) := by
  rw [drop_at h]
  simp [right, hg]
theorem right_no {l : List Opn} {k : Nat} {x : Opn} {t : Int} (h : l[k]? = some x) (hg : ¬ good t x) : right t (l.drop k) = false := by
  rw [drop_at h]
  simp [right, hg]
theorem right_end {l : List Opn} {k : Nat} {t : Int} (h : k = l.length) : right t (l.drop k) = true := by
  rw [h, List.drop_length]
  rfl
theorem right_all : ∀ (l : List Opn) (t : Int), right t l = true → ∀ (j : Nat) (x : Opn), l[j]? = some x → t + j ≤ x.1 ∧ x.1 + (l.length : Int) ≤ 16 + j ∧ Cl x.2.1 ∧ Ho x.2.2.1 x.2.2.2
  | [], _, _, j, x, h => by simp at h
  | y :: r, t, h, 0, x, hx => by
    simp [right] at h
    simp at hx
    subst hx
    refine ⟨by have := h.1.1.1; simpa using this, ?_, h.1.2.1, h.1.2.2⟩
    have ih := right_all r _ h.2
    cases r with
    | nil =>
      have := h.1.1.2
      simp
      omega
    | cons z r =>
      have := ih 0 z rfl
      simp only [List.length_cons] at this ⊢
      omega
  | y :: r, t, h, j + 1, x, hx => by
    simp [right] at h
    have ih := right_all r _ h.2 j x (by simpa using hx)
    have := h.1.1.1
    simp only [List.length_cons]
    refine ⟨by omega, by omega, ih.2.2⟩
theorem right_len {l : List Opn} (h : right 0 l = true) : l.length ≤ 16 := by
  cases l with
  | nil => simp
  | cons x r =>
    have := right_all _ _ h 0 x rfl
    omega
/-- What is wrong with open files or a client. -/
def ask (l : List Opn) (c : Int) : Int := if right 0 l = true then (if Cl c then 0 else 1) else 4
/-- The least number that is free, from i on. -/
def least (i : Nat) : List Opn → Nat
  | [] => i
  | x :: r => if x.1 = i then least (i + 1) r else i
/-- Is a number used? -/
def used (l : List Opn) (n : Int) : Bool := l.any fun x => x.1 == n
def openErr (l : List Opn) (c no gen : Int) : Int := if ask l c = 0 then (if Ho no gen then (if l.length = 16 then 407 else 0) else 1) else ask l c
def opened (l : List Opn) (c no gen : Int) : List Opn := if openErr l c no gen = 0 then l.take (least 0 l) ++ [((least 0 l : Int), c, no, gen)] ++ l.drop (least 0 l) else []
/-- A client's open file of a number. -/
def mine (c fd : Int) (x : Opn) : Bool := x.2.1 == c && x.1 == fd
def owned (l : List Opn) (c : Int) : List Opn := l.filter fun x => x.2.1 == c
def without (l g : List Opn) : List Opn := l.filter fun x => decide (x ∉ g)
def closeErr (l : List Opn) (c fd : Int) : Int := if ask l c = 0 then (match l.find? (mine c fd) with | some _ => 0 | none => 411) else ask l c
def closed (l : List Opn) (c fd : Int) : List Opn := if ask l c = 0 then (match l.find? (mine c fd) with | some x => without l [x] | none => []) else []
def closeOf (l : List Opn) (c fd : Int) : Int × Int := if ask l c = 0 then (match l.find? (mine c fd) with | some x => x.2.2 | none => (0, 0)) else (0, 0)
def left (l : List Opn) (c : Int) : List Opn := if ask l c = 0 then without l (owned l c) else []
def held (l : List Opn) (no gen : Int) : Nat := l.countP fun x => x.2.2.1 == no && x.2.2.2 == gen
end Op
end Go.Proofs.YtggoccfddnpelaaGreat.Os
namespace Go.Proofs.YtggoccfddnpelaaGreat.Os
open Go.ChangeShapes Go.WideShapes Go.ChangeAt Go.RowKit Go.Deep
set_option maxRecDepth 100000
theorem laidOut : laidOutB Tryz.prog = true := by kernel_rfl
theorem own : ownKnob Tryz.prog.godebug = none := by kernel_rfl
theorem infoO : (Tryz.prog.info? 57).map (fun i => (i.zero, i.size, i.bytes)) = some (some (.agg #[.int .i64 0, .int .i64 0, .int .i64 0, .int .i64 0]), 4, 32) := by kernel_rfl
theorem info_parts {P : Program} {e : TypeId} {z : Value} {n b : Nat} (h : (P.info? e).map (fun i => (i.zero, i.size, i.bytes)) = some (some z, n, b)) : ∃ i, P.info? e = some i ∧ i.zero = some z ∧ i.size = n ∧ i.bytes = b := by
  cases hi : P.info? e with
  | none => rw [hi] at h; cases h
  | some i =>
    rw [hi] at h
    simp at h
    exact ⟨i, rfl, h.1, h.2.1, h.2.2⟩
theorem within_any (lo x hi : Int) (w : World) : Calls Tryz.prog 89 #[.int .i64 lo, .int .i64 x, .int .i64 hi] w fun e w' => e = .returned (.bool (decide (lo ≤ x ∧ x ≤ hi))) ∧ w' = w := by
  by_cases h1 : lo ≤ x
  · by_cases h2 : x ≤ hi
    · rw [decide_eq_true (show lo ≤ x ∧ x ≤ hi from ⟨h1, h2⟩)]
      go_enter Tryz.func89, Tryz.ntmps89
      go_wp2
      go_ret
      exact ⟨rfl, rfl⟩
    · rw [decide_eq_false (show ¬ (lo ≤ x ∧ x ≤ hi) from fun h => h2 h.2)]
      go_enter Tryz.func89, Tryz.ntmps89
      go_wp2
      go_ret
      exact ⟨rfl, rfl⟩
  · rw [decide_eq_false (show ¬ (lo ≤ x ∧ x ≤ hi) from fun h => h1 h.1)]
    go_enter Tryz.func89, Tryz.ntmps89
    go_wp2
    go_ret
    exact ⟨rfl, rfl⟩
theorem within_yes (lo x hi : Int) (w : World) (h : lo ≤ x ∧ x ≤ hi) : Calls Tryz.prog 89 #[.int .i64 lo, .int .i64 x, .int .i64 hi] w fun e w' => e = .returned (.bool true) ∧ w' = w := by
  have := within_any lo x hi w
  rwa [decide_eq_true h] at this
theorem within_no (lo x hi : Int) (w : World) (h : ¬ (lo ≤ x ∧ x ≤ hi)) : Calls Tryz.prog 89 #[.int .i64 lo, .int .i64 x, .int .i64 hi] w fun e w' => e = .returned (.bool false) ∧ w' = w := by
  have := within_any lo x hi w
  rwa [decide_eq_false h] at this
theorem rclient_any (c : Int) (w : World) : Calls Tryz.prog 90 #[.int .i64 c] w fun e w' => e = .returned (.bool (decide (Op.Cl c))) ∧ w' = w := by
  obtain ⟨b, hb⟩ : ∃ b, decide (Op.Cl c) = b := ⟨_, rfl⟩
  have HD : Hid (decide (0 ≤ c ∧ c ≤ 1099511627776) = b) := (show decide (0 ≤ c ∧ c ≤ 1099511627776) = decide (Op.Cl c) from decide_eq_decide.2 Iff.rfl).trans hb
  rw [hb]
  clear hb
  go_enter Tryz.func90, Tryz.ntmps90
  go_wp2_with fail
  refine (within_any _ _ _ _).mono ?_
  rintro e w' ⟨rfl, rfl⟩
  rw [HD.out]
  go_wp2
  go_ret
  exact ⟨rfl, rfl⟩
theorem rclient_yes (c : Int) (w : World) (h : Op.Cl c) : Calls Tryz.prog 90 #[.int .i64 c] w fun e w' => e = .returned (.bool true) ∧ w' = w := by
  have := rclient_any c w
  rwa [decide_eq_true h] at this
theorem rclient_no (c : Int) (w : World) (h : ¬ Op.Cl c) : Calls Tryz.prog 90 #[.int .i64 c] w fun e w' => e = .returned (.bool false) ∧ w' = w := by
  have := rclient_any c w
  rwa [decide_eq_false h] at this
abbrev BH (no gen : Int) : Obj := .cells #[.int .i64 no, .int .i64 gen] 55
abbrev VH (no gen : Int) : Value := .agg #[.int .i64 no, .int .i64 gen]
theorem rof_any (no gen : Int) (w : World) : Calls Tryz.prog 91 #[VH no gen] w fun e w' => e = .returned (.bool (decide (Ho no gen))) ∧ w' = w.alloc (BH no gen) := by
  by_cases h1 : 0 ≤ no ∧ no ≤ 23
  · have H : Hid (0 ≤ no ∧ no ≤ 23) := h1
    obtain ⟨b, hb⟩ : ∃ b, decide (Ho no gen) = b := ⟨_, rfl⟩
    have HD : Hid (decide (1 ≤ gen ∧ gen ≤ 1099511627776) = b) := (show decide (1 ≤ gen ∧ gen ≤ 1099511627776) = decide (Ho no gen) from decide_eq_decide.2 ⟨fun h => ⟨h1, h⟩, fun h => h.2⟩).trans hb
    rw [hb]
    clear h1 hb
    go_enter Tryz.func91, Tryz.ntmps91
    go_wp2_with fail
    refine (within_yes _ _ _ _ H.out).mono ?_
    rintro e w' ⟨rfl, rfl⟩
    go_wp2_with fail
    refine (within_any _ _ _ _).mono ?_
    rintro e w' ⟨rfl, rfl⟩
    rw [HD.out]
    go_wp2
    go_ret
    exact ⟨rfl, rfl⟩
  · rw [decide_eq_false (show ¬ Ho no gen from fun h => h1 h.1)]
    have H : Hid (¬ (0 ≤ no ∧ no ≤ 23)) := h1
    clear h1
    go_enter Tryz.func91, Tryz.ntmps91
    go_wp2_with fail
    refine (within_no _ _ _ _ H.out).mono ?_
    rintro e w' ⟨rfl, rfl⟩
    go_wp2
    go_ret
    exact ⟨rfl, rfl⟩
theorem rof_yes (no gen : Int) (w : World) (h : Ho no gen) : Calls Tryz.prog 91 #[VH no gen] w fun e w' => e = .returned (.bool true) ∧ w' = w.alloc (BH no gen) := by
  have := rof_any no gen w
  rwa [decide_eq_true h] at this
theorem rof_no (no gen : Int) (w : World) (h : ¬ Ho no gen) : Calls Tryz.prog 91 #[VH no gen] w fun e w' => e = .returned (.bool false) ∧ w' = w.alloc (BH no gen) := by
  have := rof_any no gen w
  rwa [decide_eq_false h] at this
abbrev BO (x : Opn) : Obj := .cells #[.int .i64 x.1, .int .i64 x.2.1, .int .i64 x.2.2.1, .int .i64 x.2.2.2] 57
abbrev VO (x : Opn) : Value := .agg #[.int .i64 x.1, .int .i64 x.2.1, .int .i64 x.2.2.1, .int .i64 x.2.2.2]
theorem eql_hand (w : World) (a b c d : Int) : (binOp .eql 55 (VH a b) (VH c d)).run Tryz.prog w = .ok (.bool (a == c && b == d)) w := by
  cases h0 : (a == c) <;> cases h1 : (b == d) <;> go_simp <;> simp [h0, h1]
theorem cell_older {w1 : World} {p : Nat} (hp : p < w1.heap.size) (o : Obj) (j : Nat) : (w1.alloc o).cell? ⟨p, j, none⟩ = w1.cell? ⟨p, j, none⟩ := ((Below.refl w1.heap.size w1).alloc (Nat.le_refl _) o).cell (p := ⟨p, j, none⟩) hp
theorem opn_cells {w wr : World} {b off k : Nat} {x : Opn} (h : Below w.heap.size w wr) (hB : b < w.heap.size) (hc : ∀ j u, (EO.cells x)[j]? = some u → w.cell? ⟨b, off + (k * EO.sz + j), none⟩ = some u) :
    wr.cell? ⟨b, off + k * 4, none⟩ = some (.int .i64 x.1) ∧ wr.cell? ⟨b, off + k * 4 + 1, none⟩ = some (.int .i64 x.2.1) ∧ wr.cell? ⟨b, off + k * 4 + 2, none⟩ = some (.int .i64 x.2.2.1) ∧ wr.cell? ⟨b, off + k * 4 + 3, none⟩ = some (.int .i64 x.2.2.2) := by
  have a := fun j u hj => (h.cell (p := ⟨b, off + (k * EO.sz + j), none⟩) hB).trans (hc j u hj)
  exact ⟨a 0 _ rfl, a 1 _ rfl, a 2 _ rfl, a 3 _ rfl⟩
/-- What a slice that stands for a list gives a loop over it. -/
abbrev Over (w : World) (ao : Option Addr) (l : List Opn) : Prop := ∀ i x, l[i]? = some x → ∃ b off, ao = some ⟨b, off, none⟩ ∧ True ∧ b < w.heap.size ∧ ∀ k u, (EO.cells x)[k]? = some u → w.cell? ⟨b, off + (i * EO.sz + k), none⟩ = some u
set_option maxHeartbeats 2000000 in
theorem check_any (v : Value) (l : List Opn) (w : World) (hv : AtW EO w v l) :
    Calls Tryz.prog 63 #[v] w fun e w' => e = .returned (.int .i64 (if Op.right 0 l = true then 0 else 4)) ∧ Below w.heap.size w w' := by
  obtain ⟨ao, cap, rfl, hm, hx⟩ := hv.open
  clear hv
  unfold maxLen at hm
  obtain ⟨n, hn⟩ : ∃ n, l.length = n := ⟨_, rfl⟩
  rw [hn] at hm ⊢
  have HN : Hid (l.length = n) := hn
  have HX : Hid (Over w ao l) := hx
  obtain ⟨r, hr⟩ : ∃ r, (if Op.right 0 l = true then (0 : Int) else 4) = r := ⟨_, rfl⟩
  rw [hr]
  have HR : Hid ((if Op.right 0 l = true then (0 : Int) else 4) = r) := hr
  clear hn hx hr
  go_enter Tryz.func63, Tryz.ntmps63
  go_wp2
  go_loopw [3, 8] (fun t i wr => ∃ (k : Nat) (t' : Int), k ≤ n ∧ i = .int .i64 k ∧ t = .int .i64 t' ∧ 0 ≤ t' ∧ Hid (Op.right 0 l = Op.right t' (l.drop k)) ∧ Hid (Below w.heap.size w wr)) (fun _ i _ => n - (intOf i).toNat)
  case atStart => exact ⟨0, 0, Nat.zero_le _, rfl, rfl, Int.le_refl _, rfl, Below.refl _ _⟩
  case round =>
    obtain ⟨k, t, hk, rfl, rfl, ht0, HP, HB⟩ := hrel
    have hsz := HB.out.size
    by_cases hlt : k < n
    · obtain ⟨x, hxk⟩ : ∃ x, l[k]? = some x := ⟨_, List.getElem?_eq_getElem (by rw [HN.out]; exact hlt)⟩
      have HXK : Hid (l[k]? = some x) := hxk
      obtain ⟨b, off, rfl, -, hB, hc⟩ := HX.out k x hxk
      obtain ⟨c0, c1, c2, c3⟩ := opn_cells HB.out hB hc
      clear hc hxk
      have hlt' : (k : Int) < (n : Int) := by omega
      have HNO : Hid (¬ Op.good t x → r = 4) := fun hg => by
        have := HR.out
        rw [HP.out, Op.right_no HXK.out hg] at this
        exact this.symm
      have HYES : Hid (Op.good t x → Op.right 0 l = Op.right (x.1 + 1) (l.drop (k + 1))) := fun hg => HP.out.trans (Op.right_yes HXK.out hg)
      by_cases g1 : t ≤ x.1 ∧ x.1 ≤ 15
      · have G1 : Hid (t ≤ x.1 ∧ x.1 ≤ 15) := g1
        by_cases g2 : Op.Cl x.2.1
        · have G2 : Hid (Op.Cl x.2.1) := g2
          by_cases g3 : Ho x.2.2.1 x.2.2.2
          · have G3 : Hid (Ho x.2.2.1 x.2.2.2) := g3
            have hle := g1.2
            have HY : Hid (Op.right 0 l = Op.right (x.1 + 1) (l.drop (k + 1))) := HYES.out ⟨g1, g2, g3⟩
            have hge : 0 ≤ x.1 := by omega
            clear g1 g2 g3
            go_wp2_with fail
            refine (within_yes _ _ _ _ G1.out).mono ?_
            rintro e w' ⟨rfl, rfl⟩
            go_wp2_with fail
            refine (rclient_yes _ _ G2.out).mono ?_
            rintro e w' ⟨rfl, rfl⟩
            go_wp2_with fail
            refine (rof_yes _ _ _ G3.out).mono ?_
            rintro e w' ⟨rfl, rfl⟩
            go_wp2
            go_roundw
            case rel => exact ⟨k + 1, x.1 + 1, by omega, by go_num, by go_num, by omega, HY, (HB.out.alloc hsz _).alloc (by simp; omega) _⟩
            case measure => simp [intOf]; omega
          · have H : Hid (r = 4) := HNO.out fun h => g3 h.2.2
            have G3 : Hid (¬ Ho x.2.2.1 x.2.2.2) := g3
            clear g1 g2 g3
            go_wp2_with fail
            refine (within_yes _ _ _ _ G1.out).mono ?_
            rintro e w' ⟨rfl, rfl⟩
            go_wp2_with fail
            refine (rclient_yes _ _ G2.out).mono ?_
            rintro e w' ⟨rfl, rfl⟩
            go_wp2_with fail
            refine (rof_no _ _ _ G3.out).mono ?_
            rintro e w' ⟨rfl, rfl⟩
            go_wp2
            go_ret
            rw [H.out]
            exact ⟨rfl, (HB.out.alloc hsz _).alloc (by simp; omega) _⟩
        · have H : Hid (r = 4) := HNO.out fun h => g2 h.2.1
          have G2 : Hid (¬ Op.Cl x.2.1) := g2
          clear g1 g2
          go_wp2_with fail
          refine (within_yes _ _ _ _ G1.out).mono ?_
          rintro e w' ⟨rfl, rfl⟩
          go_wp2_with fail
          refine (rclient_no _ _ G2.out).mono ?_
          rintro e w' ⟨rfl, rfl⟩
          go_wp2
          go_ret
          rw [H.out]
          exact ⟨rfl, HB.out.alloc hsz _⟩
      · have H : Hid (r = 4) := HNO.out fun h => g1 h.1
        have G1 : Hid (¬ (t ≤ x.1 ∧ x.1 ≤ 15)) := g1
        clear g1
        go_wp2_with fail
        refine (within_no _ _ _ _ G1.out).mono ?_
        rintro e w' ⟨rfl, rfl⟩
        go_wp2
        go_ret
        rw [H.out]
        exact ⟨rfl, HB.out.alloc hsz _⟩
    · obtain rfl : k = n := by omega
      have H : Hid (r = 0) := by
        have := HR.out
        rw [HP.out, Op.right_end HN.out.symm, if_pos rfl] at this
        exact this.symm
      go_wp2
      go_ret
      rw [H.out]
      exact ⟨rfl, HB.out⟩
end Go.Proofs.YtggoccfddnpelaaGreat.Os
