/- FNamed, FFind, FFindB, FAddA, FAdd, FRem, Sp3, SAttr, Sp4, Sp5, Sp7, Sp8, Sp9, Sp11, Sp12, Sp14, Sp15, Sp17, Sp18, Sp20, Sp21, RefBase, as one. -/
import Derived.Test.YtggoccfddnpelaaGreatR5
namespace Go.Proofs.YtggoccfddnpelaaGreat
open Go.ChangeShapes Go.WideShapes Go.ChangeAt Go.RowKit Go.Deep
set_option maxRecDepth 100000
namespace Fo
/-- The place of the first entry that p knows; -1: none. -/
def at' (p:Ent->Bool) (l:List Ent):Int:=match l.findIdx? p with | some k=>(k:Int) | none=>-1
theorem at_hit {p:Ent->Bool} {l:List Ent} {k:Nat} {x:Ent} (h:l[k]? = some x) (hp:p x = true) (hb:∀ j y,j < k->l[j]? = some y->p y = false):at' p l = k:=by
  have hk:=(List.getElem?_eq_some_iff.1 h).1
  have:l.findIdx? p = some k:=List.findIdx?_eq_some_iff_getElem.2 ⟨hk,by
    have e:=(List.getElem?_eq_some_iff.1 h).2
    rw [e]
    exact hp,fun j hj=>by
    rw [hb j l[j] hj (List.getElem?_eq_getElem _)]
    exact Bool.false_ne_true⟩
  unfold at'
  rw [this]
theorem at_miss {p:Ent->Bool} {l:List Ent} (hb:∀ j y,j < l.length->l[j]? = some y->p y = false):at' p l = -1:=by
  have:l.findIdx? p = none:=List.findIdx?_eq_none_iff.2 fun x hx=>by
    obtain ⟨j,hj⟩:=List.mem_iff_getElem?.1 hx
    exact hb j x (List.getElem?_eq_some_iff.1 hj).1 hj
  unfold at'
  rw [this]
theorem at_or (p:Ent->Bool) (l:List Ent):(at' p l = -1/\∀ x∈l,p x = false)∨∃ (k:Nat) (x:Ent),at' p l = k/\l[k]? = some x/\p x = true/\∀ j y,j < k->l[j]? = some y->p y = false:=by
  unfold at'
  cases h:l.findIdx? p with
  | none=>exact .inl ⟨rfl,List.findIdx?_eq_none_iff.1 h⟩
  | some k =>
    obtain ⟨hk,h1,h2⟩:=List.findIdx?_eq_some_iff_getElem.1 h
    refine .inr ⟨k,l[k],rfl,List.getElem?_eq_getElem hk,h1,fun j y hj hy=>?_⟩
    have:=h2 j hj
    rw [(List.getElem?_eq_some_iff.1 hy).2] at this
    simpa using this
def called (s:ByteArray) (x:Ent):Bool:=x.1.toList == s.toList
def past (c:Int) (x:Ent):Bool:=decide (c < x.2.1)
/-- What is wrong with a folder or a name. -/
noncomputable def ask (l:List Ent) (next:Int) (s:ByteArray):Int:=if Fo.err l next = 0 then Nm.err s else 4
theorem ask_wrong {l:List Ent} {next:Int} {s:ByteArray} (h:Fo.err l next = 4):ask l next s = 4:=by unfold ask;rw [if_neg (by rw [h];decide)]
theorem ask_right {l:List Ent} {next:Int} {s:ByteArray} (h:Fo.err l next = 0):ask l next s = Nm.err s:=by unfold ask;rw [if_pos h]
end Fo
abbrev VF (f b:Nat):Value:=.func (Fn.func f) #[] #[.pointer (some ⟨b,0,none⟩)]
abbrev VE (x:Ent):Value:=.agg #[.string x.1,.int .i64 x.2.1,.int .i64 x.2.2.1,.int .i64 x.2.2.2]
namespace Fo
theorem ask_or (l:List Ent) (next:Int) (s:ByteArray):(ask l next s = 0/\Right l next/\Nm.ok s)∨(ask l next s = 4/\¬ Right l next)∨(ask l next s = 409/\Right l next/\¬ Nm.ok s):=by
  rcases err_or l next with ⟨h,hr⟩ | ⟨h,hr⟩
  · rcases Nm.err_or s with ⟨k, ho⟩ | ⟨k, ho⟩
    · exact .inl ⟨(ask_right h).trans k,hr,ho⟩
    · exact .inr (.inr ⟨(ask_right h).trans k,hr,ho⟩)
  · exact .inr (.inl ⟨ask_wrong h,hr⟩)
noncomputable def findErr (l:List Ent) (next:Int) (s:ByteArray):Int:=if ask l next s = 0 then (if at' (called s) l = -1 then 402 else 0) else ask l next s
noncomputable def plc (l:List Ent) (next:Int) (s:ByteArray):Int:=if findErr l next s = 0 then at' (called s) l else 0
end Fo
theorem cell_next {w w':World} {b j:Nat} {v:Value} (h:w.cell? ⟨b,j,none⟩ = some v) (hb:Below w.heap.size w w') (hl:b < w.heap.size):w'.cell? ⟨b,j,none⟩ = some v:=(hb.cell (p:=⟨b,j,none⟩) hl).trans h
theorem cell_lt {w:World} {b j:Nat} {v:Value} (h:w.cell? ⟨b,j,none⟩ = some v):b < w.heap.size:=by
  unfold World.cell? at h
  by_cases hb:b < w.heap.size
  · exact hb
  · rw [Array.getElem?_eq_none (by simpa using hb)] at h
    simp at h
theorem cell_step {w w':World} {b j:Nat} {v:Value} (h:w.cell? ⟨b,j,none⟩ = some v) (hb:Below w.heap.size w w'):w'.cell? ⟨b,j,none⟩ = some v:=cell_next h hb (cell_lt h)
theorem undrew {w w':World} (h:Below w.drew.heap.size w.drew w'):Below w.heap.size w w':=⟨h.os,h.tape,h.output,h.size,h.block⟩
namespace Fo
def zeroE:Ent:=(⟨#[]⟩,0,0,0)
noncomputable def found (l:List Ent) (next:Int) (s:ByteArray):Ent:=if findErr l next s = 0 then l.getD (plc l next s).toNat zeroE else zeroE
end Fo
theorem four_of {w:World} {A:Nat} {x:Ent} (h:w.heap[A]? = some (BE x)) :
    (w.cell? ⟨A,0,none⟩ = some (.string x.1)/\w.cell? ⟨A,1,none⟩ = some (.int .i64 x.2.1)/\w.cell? ⟨A,2,none⟩ = some (.int .i64 x.2.2.1)/\w.cell? ⟨A,3,none⟩ = some (.int .i64 x.2.2.2))/\∀ j,w.frozen? ⟨A,j,none⟩ = false:=by
  refine ⟨⟨?_,?_,?_,?_⟩,fun j=>?_⟩ <;> simp [World.cell?,World.frozen?,h]
namespace Fo
noncomputable def addErr (l:List Ent) (next:Int) (s:ByteArray) (no gen:Int):Int :=
  if ask l next s = 0 then (if Ho no gen then (if at' (called s) l = -1 then (if next = 1099511627776 then 407 else 0) else 403) else 1) else ask l next s
theorem add_ask {l:List Ent} {next:Int} {s:ByteArray} {no gen e:Int} (h:ask l next s = e) (he:e≠0):addErr l next s no gen = e:=by unfold addErr;rw [if_neg (by rw [h];exact he),h]
theorem add_ho {l:List Ent} {next:Int} {s:ByteArray} {no gen:Int} (h:ask l next s = 0) (ho:¬ Ho no gen):addErr l next s no gen = 1:=by unfold addErr;rw [if_pos h,if_neg ho]
theorem add_has {l:List Ent} {next:Int} {s:ByteArray} {no gen:Int} {k:Nat} (h:ask l next s = 0) (ho:Ho no gen) (ha:at' (called s) l = k):addErr l next s no gen = 403:=by unfold addErr;rw [if_pos h,if_pos ho,if_neg (by rw [ha];omega)]
theorem add_full {l:List Ent} {next:Int} {s:ByteArray} {no gen:Int} (h:ask l next s = 0) (ho:Ho no gen) (ha:at' (called s) l = -1) (hn:next = 1099511627776):addErr l next s no gen = 407:=by unfold addErr;rw [if_pos h,if_pos ho,if_pos ha,if_pos hn]
end Fo
namespace Fo
theorem right_len {l:List Ent} {next:Int} (h:Right l next):(l.length:Int)<=next:=by
  have key:∀ k:Nat,k<=l.length->(k:Int)<=lastC l k:=fun k=>by
    induction k with
    | zero=>intro _;exact Int.le_refl _
    | succ k ih =>
      intro hk
      have hx:l[k]? = some l[k]:=List.getElem?_eq_getElem (by omega)
      have hg:=h.2.1 k (by omega) _ hx
      have:=ih (by omega)
      rw [lastC_succ hx]
      omega
  have h1:=key l.length (Nat.le_refl _)
  have h2:=(lastC_bd h.2.1 (Nat.le_refl _) h.1.1).2
  omega
theorem add_zero {l : List Ent} {next : Int} {s : ByteArray} {no gen : Int} (h : addErr l next s no gen = 0) : Right l next ∧ Nm.ok s ∧ Ho no gen ∧ at' (called s) l = -1 ∧ next ≠ 1099511627776 := by
  rcases ask_or l next s with ⟨ha,hr,ho⟩ | ⟨ha,-⟩ | ⟨ha,-,-⟩
  · by_cases hh : Ho no gen
    · rcases at_or (called s) l with ⟨ht, -⟩ | ⟨k, x, ht, -, -, -⟩
      · by_cases hx : next = 1099511627776
        · rw [add_full ha hh ht hx] at h
          cases h
        · exact ⟨hr,ho,hh,ht,hx⟩
      · rw [add_has ha hh ht] at h
        cases h
    · rw [add_ho ha hh] at h
      cases h
  · rw [add_ask ha (by decide)] at h
    cases h
  · rw [add_ask ha (by decide)] at h
    cases h
end Fo
abbrev Two (D:Nat) (v:Value) (n:Int) (w:World):Prop:=w.cell? ⟨D,0,none⟩ = some v/\w.cell? ⟨D,1,none⟩ = some (.int .i64 n)
theorem At.cut {α : Type} {E : Enc α} {S : Nat → Prop} {w : World} {b off m cap : Nat} {l : List α} (h : At E S w (.slice (some ⟨b, off, none⟩) m cap) l) {lo hi : Nat} (h1 : lo ≤ hi) (h2 : hi ≤ m) : At E S w (sliced (some ⟨b, off, none⟩) lo hi cap E.sz) ((l.take hi).drop lo) := by
  by_cases he:hi = lo
  · have hz : (l.take hi).drop lo = [] := by
      apply List.eq_nil_of_length_eq_zero
      simp
      omega
    unfold sliced
    rw [hz,show hi - lo = 0 by omega]
    exact .inl ⟨_,_,rfl,rfl⟩
  · rcases h with ⟨ao, c, hv, rfl⟩ | ⟨b', off', c', hv, hS, hb, hp, hc, hm, hx⟩
    · simp only [Value.slice.injEq] at hv
      omega
    · simp only [Value.slice.injEq, Option.some.injEq, Addr.mk.injEq, and_true] at hv
      obtain ⟨⟨rfl,rfl⟩,rfl,rfl⟩:=hv
      have hlen:((l.take hi).drop lo).length = hi - lo:=by simp;omega
      refine .inr ⟨b,off + lo * E.sz,cap - lo,?_,hS,hb,by omega,by omega,by omega,fun j u hj=>?_⟩
      · rw [hlen]
        unfold sliced
        rw [if_neg (by omega)]
        simp [WideShapes.add_plain]
      · have e : l = l.take lo ++ ((l.take hi).drop lo ++ l.drop hi) := by
          have e1:l.take lo = (l.take hi).take lo:=by rw [List.take_take,Nat.min_eq_left h1]
          rw [← List.append_assoc,e1,List.take_append_drop,List.take_append_drop]
        have hlt:=(List.getElem?_eq_some_iff.1 hj).1
        have hl0:(E.flat (l.take lo)).length = lo * E.sz:=by rw [E.flat_length,List.length_take,Nat.min_eq_left (by omega)]
        have:=hx (lo * E.sz + j) u (by
          rw [e,E.flat_append,E.flat_append,List.getElem?_append_right (by omega),hl0,show lo * E.sz + j - lo * E.sz = j by omega,List.getElem?_append_left hlt]
          exact hj)
        rwa [← Nat.add_assoc] at this
end Go.Proofs.YtggoccfddnpelaaGreat
namespace Go.Proofs.YtggoccfddnpelaaGreat
open Go.ChangeShapes Go.WideShapes Go.ChangeAt Go.RowKit Go.Deep It
set_option maxRecDepth 100000
namespace Sp
def dirErr (L:List Ino) (a b:Int):Int:=if findErr L a b = 0 then (if (findI L a b).kind = 2 then 0 else 404) else findErr L a b
def dirEnts (L:List Ino) (a b:Int):List Ent:=if dirErr L a b = 0 then (findI L a b).ents else []
def dirNext (L:List Ino) (a b:Int):Int:=if dirErr L a b = 0 then (findI L a b).next else 0
noncomputable def lookErr (L:List Ino) (a b:Int) (s:ByteArray):Int:=if dirErr L a b = 0 then Fo.findErr (dirEnts L a b) (dirNext L a b) s else dirErr L a b
noncomputable def lookH (L:List Ino) (a b:Int) (s:ByteArray):Int × Int:=if dirErr L a b = 0 then (Fo.found (dirEnts L a b) (dirNext L a b) s).2.2 else (0,0)
noncomputable def nameErr (L:List Ino) (a b:Int) (s:ByteArray):Int:=if lookErr L a b s = 0 then 403 else if lookErr L a b s = 402 then 0 else lookErr L a b s
end Sp
end Go.Proofs.YtggoccfddnpelaaGreat
namespace Go.Proofs.YtggoccfddnpelaaGreat
open Go.ChangeShapes Go.WideShapes Go.ChangeAt Go.RowKit Go.Deep
set_option maxRecDepth 100000
/-- What Link tells. -/
def At.linkErr (k l s t n st : Int) : Int :=
  if At.right k l s t then
    if (n = 1∨n = -1)/\(t<=st/\st<=1099511627776) then
      if k = 1 then if 64 < l + n then 5 else if l + n < 0 then 6 else 0
      else 7
    else 1
  else 70
/-- What Grow tells. -/
def At.growErr (k l s t n st : Int) : Int :=
  if At.right k l s t then
    if t<=st/\st<=1099511627776 then
      if k = 0 then 7 else if 0<=n/\n<=1048576 then 0 else 408
    else 1
  else 70
end Go.Proofs.YtggoccfddnpelaaGreat
namespace Go.Proofs.YtggoccfddnpelaaGreat
open Go.ChangeShapes Go.WideShapes Go.ChangeAt Go.RowKit Go.Deep It
set_option maxRecDepth 100000
/-- A file with a link more, or less. -/
def Sp.linked (x:Ino) (n st:Int):Ino:=⟨x.gen,x.kind,x.links + n,x.size,st,x.runs,x.ents,x.next⟩
/-- A folder with other entries. -/
def Sp.filled (x:Ino) (es:List Ent) (nx st:Int):Ino:=⟨x.gen,x.kind,x.links,es.length,st,x.runs,es,nx⟩
theorem bel_drew {B:Nat} {w w':World} (h:Below B w w'):Below B w w'.drew:=⟨h.os,h.tape,h.output,h.size,h.block⟩
/-- What Check answers, as it is proved elsewhere. -/
def ChkSaid (C:List Ino->Int):Prop:=∀ (S:Nat->Prop) (v:Value) (L:List Rw) (w:World),TabAt S w v L->Sp.okN L->Calls Tryz.prog 62 #[v] w fun e w'=>e = .returned (.int .i64 (C (pl L)))/\Below w.heap.size w w'
namespace Sp
/-- The greatest stamp. -/
def top (L:List Ino):Int:=L.foldl (fun m x=>max m x.stamp) 0
theorem top_step {L:List Rw} {k:Nat} {x:Rw} (h:L[k]? = some x):top (pl (L.take (k + 1))) = max (top (pl (L.take k))) x.i.stamp:=by
  rw [List.take_add_one,h]
  simp [top,pl]
def stErr (C:List Ino->Int) (L:List Ino) (st:Int):Int:=if C L = 0 then (if top L<=st/\st<=1099511627776 then 0 else 1) else C L
end Sp
namespace Sp
noncomputable def toErr (C:List Ino->Int) (L:List Ino) (st a b:Int) (s:ByteArray):Int:=if stErr C L st = 0 then lookErr L a b s else stErr C L st
noncomputable def toH (C:List Ino->Int) (L:List Ino) (st a b:Int) (s:ByteArray):Int × Int:=if stErr C L st = 0 then lookH L a b s else (0,0)
noncomputable def makeErr (C:List Ino->Int) (L:List Ino) (a b:Int) (s:ByteArray) (kind st:Int):Int:=if stErr C L st = 0 then (if kind = 1∨kind = 2 then nameErr L a b s else 1) else stErr C L st
end Sp
noncomputable def Sp.linkErr (C:List Ino->Int) (L:List Ino) (a b c d:Int) (s:ByteArray) (st:Int):Int :=
  if stErr C L st = 0 then (if findErr L a b = 0 then (if (findI L a b).kind = 2 then 405 else if nameErr L c d s = 0 then (if (findI L a b).links = 64 then 407 else 0) else nameErr L c d s) else findErr L a b) else stErr C L st
namespace Sp
theorem fold_ge (L:List Ino):∀ m:Int,m<=L.foldl (fun m x=>max m x.stamp) m/\∀ x∈L,x.stamp<=L.foldl (fun m x=>max m x.stamp) m:=by
  induction L with
  | nil=>exact fun m=>⟨Int.le_refl _,fun x hx=>by cases hx⟩
  | cons y l ih =>
    intro m
    obtain ⟨h1,h2⟩:=ih (max m y.stamp)
    refine ⟨Int.le_trans (by omega) h1,fun x hx=>?_⟩
    rcases List.mem_cons.1 hx with rfl | hx
    · exact Int.le_trans (by omega) h1
    · exact h2 x hx
theorem top_ge {L:List Ino} {x:Ino} (h:x∈L):x.stamp<=top L:=(fold_ge L 0).2 x h
theorem attr_of {L:List Ino} (hr:It.right L = true) {x:Ino} (h:x∈L):At.right x.kind x.links x.size x.stamp = true:=by
  have:=(It.right_iff.1 hr).2.2 x h
  unfold It.one at this
  simp only [Bool.and_eq_true] at this
  exact this.2.1
theorem pl_some {L:List Rw} {k:Nat} {x:Ino} (h:(pl L)[k]? = some x):∃ y:Rw,L[k]? = some y/\y.i = x:=by
  rw [List.getElem?_map] at h
  cases hy:L[k]? with
  | none=>rw [hy] at h;cases h
  | some y =>
    rw [hy] at h
    exact ⟨y,rfl,by simpa using h⟩
end Sp
namespace Sp
/-- What Link tells. -/
noncomputable def linkE (C:List Ino->Int) (L:List Ino) (a b c d:Int) (s:ByteArray) (st:Int):Int :=
  if linkErr C L a b c d s st = 0 then Fo.addErr (dirEnts L c d) (dirNext L c d) s a b else linkErr C L a b c d s st
noncomputable def linkT (C:List Ino->Int) (L:List Ino) (a b c d:Int) (s:ByteArray) (st:Int):List Ino :=
  if linkE C L a b c d s st = 0 then
    (L.set c.toNat (filled (findI L c d) ((findI L c d).ents ++ [(s,(findI L c d).next + 1,a,b)]) ((findI L c d).next + 1) st)).set a.toNat (linked (findI L a b) 1 st)
  else []
end Sp
namespace Sp
/-- What Rmdir tells. -/
noncomputable def rmE (C:List Ino->Int) (L:List Ino) (a b:Int) (s:ByteArray) (st:Int):Int :=
  if toErr C L st a b s = 0 then (if (findI L (toH C L st a b s).1 (toH C L st a b s).2).kind = 2 then (if (findI L (toH C L st a b s).1 (toH C L st a b s).2).ents = [] then 0 else 406) else 404) else toErr C L st a b s
noncomputable def lessDir (L:List Ino) (a b:Int) (s:ByteArray) (st:Int):List Ino :=
  L.set a.toNat (filled (findI L a b) ((findI L a b).ents.eraseIdx (Fo.plc (findI L a b).ents (findI L a b).next s).toNat) (findI L a b).next st)
noncomputable def rmT (C:List Ino->Int) (L:List Ino) (a b:Int) (s:ByteArray) (st:Int):List Ino :=
  if rmE C L a b s st = 0 then (lessDir L a b s st).set (toH C L st a b s).1.toNat (gone (toH C L st a b s).2) else []
end Sp
namespace Sp
/-- What Unlink tells. -/
noncomputable def ulE (C:List Ino->Int) (L:List Ino) (a b:Int) (s:ByteArray) (st:Int):Int :=
  if toErr C L st a b s = 0 then (if (findI L (toH C L st a b s).1 (toH C L st a b s).2).kind = 2 then 405 else 0) else toErr C L st a b s
noncomputable def ulT (C:List Ino->Int) (L:List Ino) (a b:Int) (s:ByteArray) (st:Int):List Ino :=
  if ulE C L a b s st = 0 then (lessDir L a b s st).set (toH C L st a b s).1.toNat (linked (findI L (toH C L st a b s).1 (toH C L st a b s).2) (-1) st) else []
noncomputable def ulH (C:List Ino->Int) (L:List Ino) (a b:Int) (s:ByteArray) (st:Int):Int × Int:=if ulE C L a b s st = 0 then toH C L st a b s else (0,0)
end Sp
namespace Sp
/-- What Make tells. -/
noncomputable def mkE (C:List Ino->Int) (L:List Ino) (a b:Int) (s:ByteArray) (kind st:Int):Int :=
  if makeErr C L a b s kind st = 0 then (if It.makeErr L kind st = 0 then Fo.addErr (dirEnts L a b) (dirNext L a b) s (makeH L kind st).1 (makeH L kind st).2 else It.makeErr L kind st) else makeErr C L a b s kind st
noncomputable def mkT (C:List Ino->Int) (L:List Ino) (a b:Int) (s:ByteArray) (kind st:Int):List Ino :=
  if mkE C L a b s kind st = 0 then
    (makeTab L kind st).set a.toNat (filled (findI L a b) ((findI L a b).ents ++ [(s,(findI L a b).next + 1,(makeH L kind st).1,(makeH L kind st).2)]) ((findI L a b).next + 1) st)
  else []
end Sp
noncomputable def Sp.moveErr (I:List Ino->Int->Int->Bool) (L:List Ino) (no a b:Int) (s:ByteArray):Int:=if (nameErr L a b s = 0∨nameErr L a b s = 403)/\I L no a = true then 410 else nameErr L a b s
namespace Sp
theorem fold_le {st:Int} (L:List Ino):∀ m:Int,m<=st->(∀ x∈L,x.stamp<=st)->L.foldl (fun m x=>max m x.stamp) m<=st:=by
  induction L with
  | nil=>intro m hm _;exact hm
  | cons x L ih=>exact fun m hm h=>ih (max m x.stamp) (by have:=h x (by simp);omega) (fun y hy=>h y (by simp [hy]))
theorem top_le {st:Int} {L:List Ino} (h0:0<=st) (h:∀ x∈L,x.stamp<=st):top L<=st:=fold_le L 0 h0 h
/-- The folder that a name moves to, in the table that has a name less. -/
noncomputable def midI (L:List Ino) (a b:Int) (s:ByteArray) (st c:Int):Ino:=((lessDir L a b s st)[c.toNat]?).getD zeroI
/-- What Rename tells. -/
noncomputable def rnE (C:List Ino->Int) (I:List Ino->Int->Int->Bool) (L:List Ino) (a b:Int) (s:ByteArray) (c d:Int) (s2:ByteArray) (st:Int):Int :=
  if toErr C L st a b s = 0 then (if moveErr I L (toH C L st a b s).1 c d s2 = 0 then Fo.addErr (midI L a b s st c).ents (midI L a b s st c).next s2 (toH C L st a b s).1 (toH C L st a b s).2 else moveErr I L (toH C L st a b s).1 c d s2) else toErr C L st a b s
noncomputable def rnT (C:List Ino->Int) (I:List Ino->Int->Int->Bool) (L:List Ino) (a b:Int) (s:ByteArray) (c d:Int) (s2:ByteArray) (st:Int):List Ino :=
  if rnE C I L a b s c d s2 st = 0 then (lessDir L a b s st).set c.toNat (filled (midI L a b s st c) ((midI L a b s st c).ents ++ [(s2,(midI L a b s st c).next + 1,(toH C L st a b s).1,(toH C L st a b s).2)]) ((midI L a b s st c).next + 1) st) else []
end Sp
end Go.Proofs.YtggoccfddnpelaaGreat
namespace Go.Proofs.YtggoccfddnpelaaGreat
open Go.ChangeShapes Go.WideShapes Go.ChangeAt Go.RowKit Go.Deep
set_option maxRecDepth 100000
set_option maxHeartbeats 2000000 in
theorem aright_any (k l s t : Int) (w : World) : Calls Tryz.prog 55 #[VA k l s t] w fun e w' => e = .returned (.bool (At.right k l s t)) ∧ w' = w.alloc (BA k l s t) := by
  by_cases k0:k = 0
  · have HE : Hid (At.right k l s t = (decide (l = 0) && decide (s = 0) && decide (t = 0))) := by
      show At.right k l s t = _
      unfold At.right At.rightP
      rw [Bool.eq_iff_iff]
      simp [k0,and_assoc]
    subst k0
    obtain ⟨y,hy⟩:∃ y,At.right 0 l s t = y:=⟨_,rfl⟩
    have HY:Hid (At.right 0 l s t = y):=hy
    rw [hy]
    clear hy
    by_cases l0:l = 0
    · by_cases s0 : s = 0
      · by_cases t0 : t = 0
        all_goals
          have H:Hid (y = decide (t = 0)):=by show y = _;rw [← HY.out,HE.out];simp [l0,s0]
          subst l0
          subst s0
          go_enter Tryz.func55,Tryz.ntmps55
          go_wp2
          go_ret
          rw [H.out]
          simp [t0]
      · have H : Hid (y = false) := by show y = _; rw [← HY.out, HE.out]; simp [s0]
        subst l0
        go_enter Tryz.func55,Tryz.ntmps55
        go_wp2
        go_ret
        rw [H.out]
        exact ⟨rfl,rfl⟩
    · have H : Hid (y = false) := by show y = _; rw [← HY.out, HE.out]; simp [l0]
      go_enter Tryz.func55,Tryz.ntmps55
      go_wp2
      go_ret
      rw [H.out]
      exact ⟨rfl,rfl⟩
  · obtain ⟨y, hy⟩ : ∃ y, At.right k l s t = y := ⟨_, rfl⟩
    have HY:Hid (At.right k l s t = y):=hy
    rw [hy]
    clear hy
    by_cases s0:s < 0
    · have H : Hid (y = false) := by rw [← HY.out]; exact At.wrong_iff.2 (by unfold At.rightP; omega)
      go_enter Tryz.func55,Tryz.ntmps55
      go_wp2
      go_ret
      rw [H.out]
      exact ⟨rfl,rfl⟩
    by_cases s1:1048576 < s
    · have H : Hid (y = false) := by rw [← HY.out]; exact At.wrong_iff.2 (by unfold At.rightP; omega)
      go_enter Tryz.func55,Tryz.ntmps55
      go_wp2
      go_ret
      rw [H.out]
      exact ⟨rfl,rfl⟩
    by_cases t0:t < 0
    · have H : Hid (y = false) := by rw [← HY.out]; exact At.wrong_iff.2 (by unfold At.rightP; omega)
      go_enter Tryz.func55,Tryz.ntmps55
      go_wp2
      go_ret
      rw [H.out]
      exact ⟨rfl,rfl⟩
    by_cases t1:1099511627776 < t
    · have H : Hid (y = false) := by rw [← HY.out]; exact At.wrong_iff.2 (by unfold At.rightP; omega)
      go_enter Tryz.func55,Tryz.ntmps55
      go_wp2
      go_ret
      rw [H.out]
      exact ⟨rfl,rfl⟩
    by_cases k1:k = 1
    · by_cases l0 : 0 ≤ l
      · by_cases l1 : l ≤ 64
        · have H : Hid (y = true) := by rw [← HY.out]; exact At.right_iff.2 (by unfold At.rightP; omega)
          subst k1
          go_enter Tryz.func55,Tryz.ntmps55
          go_wp2
          go_ret
          rw [H.out]
          exact ⟨rfl,rfl⟩
        · have H : Hid (y = false) := by rw [← HY.out]; exact At.wrong_iff.2 (by unfold At.rightP; omega)
          subst k1
          go_enter Tryz.func55,Tryz.ntmps55
          go_wp2
          go_ret
          rw [H.out]
          exact ⟨rfl,rfl⟩
      · have H : Hid (y = false) := by rw [← HY.out]; exact At.wrong_iff.2 (by unfold At.rightP; omega)
        subst k1
        go_enter Tryz.func55,Tryz.ntmps55
        go_wp2
        go_ret
        rw [H.out]
        exact ⟨rfl,rfl⟩
    by_cases k2:k = 2
    · by_cases l1 : l = 1
      · have H : Hid (y = true) := by rw [← HY.out]; exact At.right_iff.2 (by unfold At.rightP; omega)
        subst k2
        subst l1
        go_enter Tryz.func55,Tryz.ntmps55
        go_wp2
        go_ret
        rw [H.out]
        exact ⟨rfl,rfl⟩
      · have H : Hid (y = false) := by rw [← HY.out]; exact At.wrong_iff.2 (by unfold At.rightP; omega)
        subst k2
        have l1':(l == 1) = false:=by simpa using l1
        go_enter Tryz.func55,Tryz.ntmps55
        go_wp2
        go_ret
        rw [H.out]
        exact ⟨rfl,rfl⟩
    have H:Hid (y = false):=by rw [← HY.out];exact At.wrong_iff.2 (by unfold At.rightP;omega)
    go_enter Tryz.func55,Tryz.ntmps55
    go_wp2
    go_ret
    rw [H.out]
    exact ⟨rfl,rfl⟩
set_option maxHeartbeats 2000000 in
theorem bright_any (v : Value) (l : List Bl.R) (w : World) (hv : FieldsAt w.heap.size w v l) (hok : okFields l) :
    Calls Tryz.prog 161 #[v] w fun e w'=>e = .returned (.bool (decide (Bl.right (-1) l)))/\Below w.heap.size w w':=by
  obtain ⟨ao,cap,rfl,hm,hx⟩:=hv.open
  clear hv
  unfold maxLen at hm
  obtain ⟨n,hn⟩:∃ n,l.length = n:=⟨_,rfl⟩
  rw [hn] at hm hx ⊢
  have HN:Hid (l.length = n):=hn
  have HX:Hid (∀ j,j < n->∃ b off,ao = some ⟨b,off,none⟩/\b < w.heap.size/\w.cell? ⟨b,off + j * 2,none⟩ = some (.int .i64 (l.getD j (0,.empty)).1)/\w.cell? ⟨b,off + j * 2 + 1,none⟩ = some (.string (l.getD j (0,.empty)).2)):=hx
  have HO:Hid (okFields l):=hok
  clear hn hx hok
  obtain ⟨rb,hrb⟩:∃ rb,decide (Bl.right (-1) l) = rb:=⟨_,rfl⟩
  have HRB:Hid (decide (Bl.right (-1) l) = rb):=hrb
  rw [hrb]
  clear hrb
  go_enter Tryz.func161,Tryz.ntmps161
  go_wp2
  go_loopw [7] (fun i wr=>∃ k:Nat,k<=n/\i = .int .i64 k/\Bl.right (-1) (l.take k)/\Below w.heap.size w wr) (fun i _=>n - (intOf i).toNat)
  case atStart=>exact ⟨0,Nat.zero_le _,rfl,trivial,Below.refl _ _⟩
  case round =>
    obtain ⟨k,hk,rfl,hr,hbl⟩:=hrel
    have hsz:=hbl.size
    have HR:Hid (Bl.right (-1) (l.take k)):=hr
    clear hr
    by_cases hlt:k < n
    · obtain ⟨b, off, rfl, hB, c0, c1⟩ := HX.out k hlt
      have hk':k < l.length:=by rw [HN.out];exact hlt
      have hof:=HO.out.at hk'
      rw [← hbl.cell (p:=⟨b,off + k * 2,none⟩) hB] at c0
      rw [← hbl.cell (p:=⟨b,off + k * 2 + 1,none⟩) hB] at c1
      obtain ⟨x,hxk⟩:∃ x,l.getD k (0,.empty) = x:=⟨_,rfl⟩
      rw [hxk] at c0 c1 hof
      have HXK:Hid (l.getD k (0,.empty) = x):=hxk
      clear hxk
      obtain ⟨xa,xs⟩:=x
      simp only at c0 c1 hof
      obtain ⟨⟨ha0,ha1⟩,hs1⟩:=hof
      unfold maxLen at hs1
      have hlt':(k:Int) < (n:Int):=by omega
      have hbw:b < wr.heap.size:=by omega
      have HL0:Hid (-1<=Bl.lastEnd (-1) (l.take k)):=(Bl.lastEnd_bd HR.out).1
      by_cases h1:xs.size = 0
      · have H : Hid (rb = false) := by rw [← HRB.out]; exact Bl.not_right hk' HXK.out (fun h => h.1 h1)
        have hem:xs.toList.isEmpty = true:=by
          rw [ByteArray.toList_eq,List.isEmpty_iff]
          exact List.eq_nil_of_length_eq_zero (by simpa using h1)
        clear h1
        go_wp2
        go_ret
        rw [H.out]
        exact ⟨rfl,hbl.alloc hsz _⟩
      have hem:xs.toList.isEmpty = false:=by
        rw [ByteArray.toList_eq,List.isEmpty_eq_false_iff]
        intro h
        have:xs.data.toList.length = 0:=by rw [h];rfl
        exact h1 (by simpa using this)
      have H1:Hid (¬ xs.size = 0):=h1
      clear h1
      by_cases h2:xa < 0
      · have H : Hid (rb = false) := by rw [← HRB.out]; exact Bl.not_right hk' HXK.out (fun h => by have h5 := h.2.1; have := HL0.out; simp only at h5; omega)
        go_wp2
        go_ret
        rw [H.out]
        exact ⟨rfl,hbl.alloc hsz _⟩
      by_cases h3:1048576 < xa
      · have H : Hid (rb = false) := by rw [← HRB.out]; exact Bl.not_right hk' HXK.out (fun h => by have h5 := h.2.2; simp only at h5; omega)
        go_wp2
        go_ret
        rw [H.out]
        exact ⟨rfl,hbl.alloc hsz _⟩
      by_cases h4:1048576 - xa < (xs.size:Int)
      · have H : Hid (rb = false) := by rw [← HRB.out]; exact Bl.not_right hk' HXK.out (fun h => by have h5 := h.2.2; simp only at h5; omega)
        go_wp2
        go_ret
        rw [H.out]
        exact ⟨rfl,hbl.alloc hsz _⟩
      by_cases hk0:k = 0
      · have hg : decide (0 < k) = false := by simp [hk0]
        have HLE:Hid (Bl.lastEnd (-1) (l.take k) < xa):=by
          show Bl.lastEnd (-1) (l.take k) < xa
          rw [hk0]
          show (-1:Int) < xa
          omega
        clear hk0
        go_wp2
        go_quiet (fail)
        go_wp2
        go_roundw
        case rel=>exact ⟨k + 1,by omega,by go_num,(Bl.right_take_succ hk' HXK.out).2 ⟨HR.out,H1.out,HLE.out,by simp only;omega⟩,Go.below_drewN (hbl.alloc hsz _) _⟩
        case measure=>simp [intOf];omega
      · obtain ⟨j, rfl⟩ : ∃ j, k = j + 1 := ⟨k - 1, by omega⟩
        obtain ⟨b2,off2,hbe,hB2,d0,d1⟩:=HX.out j (by omega)
        cases hbe
        rw [← hbl.cell (p:=⟨b,off + j * 2,none⟩) hB] at d0
        rw [← hbl.cell (p:=⟨b,off + j * 2 + 1,none⟩) hB] at d1
        obtain ⟨y,hyk⟩:∃ y,l.getD j (0,.empty) = y:=⟨_,rfl⟩
        have hj':j < l.length:=by rw [HN.out];omega
        have hyr:=((Bl.right_take_succ hj' hyk).1 HR.out).2
        have HLE:Hid (Bl.lastEnd (-1) (l.take (j + 1)) = y.1 + y.2.size):=Bl.lastEnd_succ hj' hyk
        have hy0:-1<=Bl.lastEnd (-1) (l.take j):=(Bl.lastEnd_bd (Bl.right_take HR.out j |> fun h=>by rwa [List.take_take,Nat.min_eq_left (by omega)] at h)).1
        rw [hyk] at d0 d1
        clear hyk
        obtain ⟨ya,ys⟩:=y
        simp only at d0 d1 hyr HLE
        obtain ⟨_,hya,hye⟩:=hyr
        have hya0:0<=ya:=by omega
        clear hya hy0 hk0
        have hg:decide (0 < j + 1) = true:=by simp
        have hjn:(j:Int) < (n:Int):=by omega
        have hj0:(0:Int)<=(j:Int):=by omega
        by_cases hc:xa<=ya + (ys.size:Int)
        · have H : Hid (rb = false) := by rw [← HRB.out]; exact Bl.not_right hk' HXK.out (fun h => by have h5 := h.2.1; rw [HLE.out] at h5; simp only at h5; omega)
          go_wp2
          go_quiet (fail)
          go_wp2
          go_ret
          rw [H.out]
          exact ⟨rfl,Go.below_drewN (hbl.alloc hsz _) _⟩
        · go_wp2
          go_quiet (fail)
          go_wp2
          go_roundw
          case rel=>exact ⟨j + 1 + 1,by omega,by go_num,(Bl.right_take_succ hk' HXK.out).2 ⟨HR.out,H1.out,by rw [HLE.out];simp only;omega,by simp only;omega⟩,Go.below_drewN (hbl.alloc hsz _) _⟩
          case measure=>simp [intOf];omega
    · obtain rfl : k = n := by omega
      have H:Hid (rb = true):=by
        rw [← HRB.out]
        have:=HR.out
        rw [← HN.out,List.take_length] at this
        exact decide_eq_true this
      go_wp2
      go_ret
      rw [H.out]
      exact ⟨rfl,hbl⟩
set_option maxHeartbeats 1000000 in
theorem runs_same (u v:Value) (l:List Bl.R) (w:World) (hu:FieldsAt w.heap.size w u l) (hv:FieldsAt w.heap.size w v l) :
    Calls Tryz.prog 39 #[u,v] w fun e w'=>e = .returned (.bool true)/\Below w.heap.size w w':=by
  obtain ⟨ao,cap,rfl,hm,hx⟩:=hu.open
  obtain ⟨bo,cap',rfl,_,hy⟩:=hv.open
  clear hu hv
  unfold maxLen at hm
  obtain ⟨n,hn⟩:∃ n,l.length = n:=⟨_,rfl⟩
  rw [hn] at hm hx hy ⊢
  have HX:Hid (∀ j,j < n->∃ b off,ao = some ⟨b,off,none⟩/\b < w.heap.size/\w.cell? ⟨b,off + j * 2,none⟩ = some (.int .i64 (l.getD j (0,.empty)).1)/\w.cell? ⟨b,off + j * 2 + 1,none⟩ = some (.string (l.getD j (0,.empty)).2)):=hx
  have HY:Hid (∀ j,j < n->∃ b off,bo = some ⟨b,off,none⟩/\b < w.heap.size/\w.cell? ⟨b,off + j * 2,none⟩ = some (.int .i64 (l.getD j (0,.empty)).1)/\w.cell? ⟨b,off + j * 2 + 1,none⟩ = some (.string (l.getD j (0,.empty)).2)):=hy
  clear hn hx hy
  go_enter Tryz.func39,Tryz.ntmps39
  go_wp2
  go_loopw [8] (fun i wr=>∃ k:Nat,k<=n/\i = .int .i64 k/\Below w.heap.size w wr) (fun i _=>n - (intOf i).toNat)
  case atStart=>exact ⟨0,Nat.zero_le _,rfl,Below.refl _ _⟩
  case round =>
    obtain ⟨k,hk,rfl,hbl⟩:=hrel
    by_cases hlt:k < n
    · obtain ⟨b, off, rfl, hB, c0, c1⟩ := HX.out k hlt
      obtain ⟨b',off',rfl,hB',d0,d1⟩:=HY.out k hlt
      rw [← hbl.cell (p:=⟨b,off + k * 2,none⟩) hB] at c0
      rw [← hbl.cell (p:=⟨b,off + k * 2 + 1,none⟩) hB] at c1
      rw [← hbl.cell (p:=⟨b',off' + k * 2,none⟩) hB'] at d0
      rw [← hbl.cell (p:=⟨b',off' + k * 2 + 1,none⟩) hB'] at d1
      generalize l.getD k (0,.empty) = f at c0 c1 d0 d1
      obtain ⟨t,s⟩:=f
      have hlt':(k:Int) < (n:Int):=by omega
      have hge:decide ((n:Int)<=(k:Int)) = false:=by simp;omega
      have hge2:decide (n<=k) = false:=by simp;omega
      go_wp2
      go_quiet (fail)
      go_wp2
      go_roundw
      case rel=>exact ⟨k + 1,by omega,by go_num,Go.below_drewN hbl _⟩
      case measure=>simp [intOf];omega
    · obtain rfl : k = n := by omega
      go_wp2
      go_ret
      exact ⟨by simp,hbl⟩
end Go.Proofs.YtggoccfddnpelaaGreat
