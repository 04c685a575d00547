/- Mn, Plain, Row, Base, as one. -/
import Derived.Lib.AppendZeros
import Derived.Deep.RegionHeld3
import Derived.Lib.LazyBuf
import Derived.Laws.AppendOwn
import Derived.OrdersHeld
import Derived.OrdersIn
import Derived.RangeFuncNested
import Derived.RangeFuncCalls
import Derived.TacticsIn
import Derived.Deep.OwnRows
import Derived.Lib.BufferWrite
import Derived.Laws.BytesArg
import Derived.Lib.SmallJoins
import Derived.SizedLaws
import Derived.ProofKit
import Derived.Deep.SlicePairs
import Derived.ChangeMaps5
import Derived.Below
import Derived.Orders
import Derived.WalkKit
import Derived.Deep.AppendSrc
import Derived.Deep.DeepAppendWide
import Derived.WalkSmall
import Derived.BigQuiet
import Derived.Deep.QuietTactic
import Derived.Test.YtggoccfddnpelaaGreatRows
import Derived.WalkSpells
import Derived.WalkLawsBesides
namespace Go.Proofs.YtggoccfddnpelaaGreat
open Go Go.RowKit
set_option maxRecDepth 100000
theorem qZ {α:Type} (x:α) (l:List α) (n:Nat) (a:α):(x :: l).set (n + 1) a = x :: l.set n a:=rfl
end Go.Proofs.YtggoccfddnpelaaGreat
namespace Go.Proofs.YtggoccfddnpelaaGreat
open Go.RowKit (wrap64)
set_option maxRecDepth 100000
namespace At
/-- Kind, links, size, stamp. -/
def rightP (k l s t:Int):Prop:=(k = 0/\l = 0/\s = 0/\t = 0)∨((0<=s/\s<=1048576)/\(0<=t/\t<=1099511627776)/\((k = 1/\0<=l/\l<=64)∨(k = 2/\l = 1)))
instance (k l s t:Int):Decidable (rightP k l s t):=by unfold rightP;infer_instance
def right (k l s t:Int):Bool:=decide (rightP k l s t)
theorem right_iff {k l s t:Int}:right k l s t = true ↔ rightP k l s t:=by simp [right]
theorem wrong_iff {k l s t:Int}:right k l s t = false ↔ ¬ rightP k l s t:=by simp [right]
end At
namespace Bl
abbrev R:=Int × ByteArray
def d0:R:=(0,⟨#[]⟩)
def txt (l:List UInt8):ByteArray:=⟨l.toArray⟩
def bs (r:R):List UInt8:=r.2.data.toList
theorem txt_size (l:List UInt8):(txt l).size = l.length:=by simp [txt,ByteArray.size]
theorem txt_append (a b:List UInt8):txt a ++ txt b = txt (a ++ b):=ByteArray.mk_append_mk a b
theorem data_append (a b:ByteArray):(a ++ b).data.toList = a.data.toList ++ b.data.toList:=by simp
theorem size_append (a b:ByteArray):(a ++ b).size = a.size + b.size:=by simp
theorem extract_txt (s:ByteArray) (a b:Nat):s.extract a b = txt ((s.data.toList.drop a).take (b - a)):=by
  cases s with
  | mk d =>
    simp only [txt]
    apply ByteArray.ext
    simp only [ByteArray.data_extract]
    rw [← Array.toList_inj]
    simp [Array.toList_extract,List.extract_eq_take_drop]
def rend (r:R):Int:=r.1 + r.2.size
abbrev MAX:Int:=1048576
/-- Right runs behind a place. -/
def right (last:Int):List R->Prop
  | []=>True
  | r :: l=>(r.2.size≠0/\last < r.1/\r.1 + r.2.size<=MAX)/\right (rend r) l
instance instRight:∀ (last:Int) (l:List R),Decidable (right last l)
  | _,[]=>.isTrue trivial
  | _,r :: l=>@instDecidableAnd _ _ inferInstance (instRight (rend r) l)
def lastEnd (a:Int):List R->Int
  | []=>a
  | r :: l=>lastEnd (rend r) l
theorem lastEnd_append (l m:List R):∀ a,lastEnd a (l ++ m) = lastEnd (lastEnd a l) m:=by
  induction l with
  | nil=>intro a;rfl
  | cons r l ih=>intro a;exact ih _
theorem right_append (l m:List R):∀ a,right a (l ++ m) ↔ right a l/\right (lastEnd a l) m:=by
  induction l with
  | nil=>intro a;simp [right,lastEnd]
  | cons r l ih =>
    intro a
    have h:=ih (rend r)
    show (_/\right (rend r) (l ++ m)) ↔ (_/\right (rend r) l)/\right (lastEnd (rend r) l) m
    rw [h]
    exact (and_assoc (a:=_/\_/\_)).symm
theorem right_lastEnd {l:List R}:∀ {a:Int},right a l->a<=lastEnd a l:=by
  induction l with
  | nil=>intro a _;exact Int.le_refl _
  | cons r l ih =>
    intro a h
    have:=ih h.2
    have h1:=h.1
    show a<=lastEnd (rend r) l
    unfold rend at *
    omega
theorem right_mem {l:List R}:∀ {a:Int},right a l->∀ r∈l,r.2.size≠0/\a < r.1/\rend r<=MAX:=by
  induction l with
  | nil=>intro a _ r hr;cases hr
  | cons s l ih =>
    intro a h r hr
    rcases List.mem_cons.1 hr with rfl | hr
    · exact ⟨h.1.1,h.1.2.1,h.1.2.2⟩
    · have := ih h.2 r hr
      have h1:=h.1
      unfold rend at *
      exact ⟨this.1,by omega,this.2.2⟩
theorem right_length {l:List R}:∀ {a:Int},right a l->a<=MAX->(l.length:Int)<=MAX - a:=by
  induction l with
  | nil=>intro a _ ha;simp;omega
  | cons s l ih =>
    intro a h ha
    have h1:=h.1
    have:=ih h.2 (by unfold rend;omega)
    simp only [List.length_cons]
    unfold rend at *
    omega
theorem snoc_cases (l:List R):l = []∨∃ m s,l = m ++ [s]:=by
  rcases List.eq_nil_or_concat l with h | ⟨m,s,h⟩
  · exact .inl h
  · exact .inr ⟨m,s,by simpa using h⟩
def endOf (l:List R):Int:=if right (-1) l then lastEnd 0 l else 0
theorem lastEnd_ne {l:List R} (h:l≠[]) (a b:Int):lastEnd a l = lastEnd b l:=by
  cases l with
  | nil=>exact absurd rfl h
  | cons r l=>rfl
def sumw (l:List R):Int:=l.foldl (fun y r=>wrap64 (y + (r.2.size:Int))) 0
theorem takeR_succ (l:List R) {k:Nat} (hk:k < l.length) {x:R} (hx:l.getD k (0,.empty) = x):l.take (k + 1) = l.take k ++ [x]:=by
  rw [List.take_add_one,List.getElem?_eq_getElem hk]
  simp [List.getD,List.getElem?_eq_getElem hk] at hx
  simp [hx]
theorem sumw_succ {l:List R} {k:Nat} (hk:k < l.length) {x:R} (hx:l.getD k (0,.empty) = x):sumw (l.take (k + 1)) = wrap64 (sumw (l.take k) + (x.2.size:Int)):=by
  rw [takeR_succ l hk hx];unfold sumw;rw [List.foldl_append];rfl
end Bl
/-- What reads as fields: each tag an int, each value a string that can be. -/
def okFields (l:List (Int × ByteArray)):Prop:=∀ x∈l,(-9223372036854775808<=x.1/\x.1<=9223372036854775807)/\x.2.size<=maxLen
theorem okFields.at {l:List (Int × ByteArray)} (h:okFields l) {i:Nat} (hi:i < l.length):(-9223372036854775808<=(l.getD i (0,.empty)).1/\(l.getD i (0,.empty)).1<=9223372036854775807)/\(l.getD i (0,.empty)).2.size<=maxLen:=by
  have:l.getD i (0,.empty)∈l:=by simp [List.getD,hi]
  exact h _ this
def Bl.err (l:List Bl.R):Int:=if Bl.right (-1) l then 0 else 80
theorem Bl.take_succ (l:List Bl.R) {k:Nat} (hk:k < l.length) {x:Bl.R} (hx:l.getD k (0,.empty) = x):l.take (k + 1) = l.take k ++ [x]:=by
  rw [List.take_succ_eq_append_getElem hk,← hx]
  simp [List.getD,hk]
theorem Bl.right_take_succ {l:List Bl.R} {k:Nat} (hk:k < l.length) {x:Bl.R} (hx:l.getD k (0,.empty) = x):Bl.right (-1) (l.take (k + 1)) ↔ Bl.right (-1) (l.take k)/\(x.2.size≠0/\Bl.lastEnd (-1) (l.take k) < x.1/\x.1 + x.2.size<=1048576):=by
  rw [Bl.take_succ l hk hx,Bl.right_append]
  exact ⟨fun ⟨a,b,_⟩=>⟨a,b⟩,fun ⟨a,b⟩=>⟨a,b,trivial⟩⟩
theorem Bl.right_take {l:List Bl.R} {a:Int} (h:Bl.right a l) (k:Nat):Bl.right a (l.take k):=by
  rw [← List.take_append_drop k l,Bl.right_append] at h
  exact h.1
theorem Bl.err_bad {l:List Bl.R} {k:Nat} (hk:k < l.length) {x:Bl.R} (hx:l.getD k (0,.empty) = x) (h:¬ (x.2.size≠0/\Bl.lastEnd (-1) (l.take k) < x.1/\x.1 + x.2.size<=1048576)):Bl.err l = 80:=by
  unfold Bl.err
  rw [if_neg]
  intro hr
  exact h ((Bl.right_take_succ hk hx).1 (Bl.right_take hr (k + 1))).2
theorem Bl.lastEnd_succ {l:List Bl.R} {k:Nat} (hk:k < l.length) {x:Bl.R} (hx:l.getD k (0,.empty) = x):Bl.lastEnd (-1) (l.take (k + 1)) = x.1 + x.2.size:=by
  rw [Bl.take_succ l hk hx,Bl.lastEnd_append]
  rfl
theorem Bl.lastEnd_bd {l:List Bl.R} (h:Bl.right (-1) l):-1<=Bl.lastEnd (-1) l/\Bl.lastEnd (-1) l<=1048576:=by
  refine ⟨Bl.right_lastEnd h,?_⟩
  rcases Bl.snoc_cases l with rfl | ⟨m,s,rfl⟩
  · decide
  · rw [Bl.lastEnd_append]
    exact (Bl.right_mem h s (by simp)).2.2
theorem Bl.not_right {l:List Bl.R} {k:Nat} (hk:k < l.length) {x:Bl.R} (hx:l.getD k (0,.empty) = x) (h:¬ (x.2.size≠0/\Bl.lastEnd (-1) (l.take k) < x.1/\x.1 + x.2.size<=1048576)):decide (Bl.right (-1) l) = false :=
  decide_eq_false fun hr=>h ((Bl.right_take_succ hk hx).1 (Bl.right_take hr (k + 1))).2
end Go.Proofs.YtggoccfddnpelaaGreat
namespace Go.Proofs.YtggoccfddnpelaaGreat
open Go.RowKit
set_option maxRecDepth 100000
theorem grown_refl (w:World) (row:Option Nat):w.grownBy w row:=⟨rfl,rfl,rfl,Nat.le_refl _,fun _ _ _=>rfl⟩
theorem grown_trans {a b c:World} {row:Option Nat} (h:a.grownBy b row) (k:b.grownBy c row):a.grownBy c row :=
  ⟨k.os.trans h.os,k.tape.trans h.tape,k.output.trans h.output,Nat.le_trans h.size k.size,fun i hi hr=>(k.block i (Nat.lt_of_lt_of_le hi h.size) hr).trans (h.block i hi hr)⟩
theorem grown_of_below {w w':World} (h:Below w.heap.size w w') (row:Option Nat):w.grownBy w' row:=⟨h.os,h.tape,h.output,h.size,fun k hk _=>h.block k hk⟩
theorem below_none {B:Nat} {w w':World} (h:w.grownBy w' none) (hs:B<=w.heap.size):Below B w w':=(Below.refl B w).grown h hs (fun k hk=>by cases hk)
/-- How a struct lies in cells. -/
structure Enc (α:Type) where
  sz:Nat
  cells:α->List Value
  len:∀ x,(cells x).length = sz
  one:∀ x,∀ u∈cells x,u.oneCell' = true
variable {α:Type}
def Enc.flat (E:Enc α) (l:List α):List Value:=l.flatMap E.cells
theorem Enc.flat_length (E:Enc α) (l:List α):(E.flat l).length = l.length * E.sz:=by
  induction l with
  | nil=>simp [Enc.flat]
  | cons x l ih =>
    have e:E.flat (x :: l) = E.cells x ++ E.flat l:=by simp [Enc.flat]
    rw [e,List.length_append,ih,E.len,List.length_cons,Nat.succ_mul]
    omega
theorem Enc.flat_append (E:Enc α) (l m:List α):E.flat (l ++ m) = E.flat l ++ E.flat m:=by simp [Enc.flat]
theorem Enc.flat_one (E:Enc α) (l:List α):∀ u∈E.flat l,u.oneCell' = true:=fun u hu=>by
  obtain ⟨x,_,hx⟩:=List.mem_flatMap.1 hu
  exact E.one x u hx
theorem Enc.flat_at (E:Enc α):∀ (l:List α) (i:Nat) (x:α),l[i]? = some x->∀ k u,(E.cells x)[k]? = some u->(E.flat l)[i * E.sz + k]? = some u
  | [],i,x,h,_,_,_=>by simp at h
  | y :: l, 0, x, h, k, u, hu => by
    simp at h
    subst h
    have e:E.flat (y :: l) = E.cells y ++ E.flat l:=by simp [Enc.flat]
    rw [e,Nat.zero_mul,Nat.zero_add,List.getElem?_append_left (List.getElem?_eq_some_iff.1 hu).1]
    exact hu
  | y :: l, i + 1, x, h, k, u, hu => by
    have e:E.flat (y :: l) = E.cells y ++ E.flat l:=by simp [Enc.flat]
    have:=E.flat_at l i x (by simpa using h) k u hu
    rw [e,Nat.succ_mul,List.getElem?_append_right (by rw [E.len];omega),E.len,show i * E.sz + E.sz + k - E.sz = i * E.sz + k from by omega]
    exact this
theorem Enc.flat_set (E:Enc α):∀ (l:List α) (i:Nat) (x:α),i < l.length->(E.flat l).take (i * E.sz) ++ E.cells x ++ (E.flat l).drop (i * E.sz + E.sz) = E.flat (l.set i x)
  | [],i,x,h=>by simp at h
  | y :: l, 0, x, h => by
    have e:∀ z,E.flat (z :: l) = E.cells z ++ E.flat l:=fun z=>by simp [Enc.flat]
    rw [List.set_cons_zero,e,e,Nat.zero_mul,List.take_zero,Nat.zero_add,List.nil_append]
    congr 1
    rw [List.drop_append_of_le_length (by rw [E.len];omega),List.drop_of_length_le (by rw [E.len];omega)]
    rfl
  | y :: l, i + 1, x, h => by
    have e:∀ (z:α) m,E.flat (z :: m) = E.cells z ++ E.flat m:=fun z m=>by simp [Enc.flat]
    have ih:=E.flat_set l i x (by simpa using h)
    have hl:=E.len y
    rw [List.set_cons_succ,e,e,← ih,Nat.succ_mul]
    have h1:(E.cells y ++ E.flat l).take (i * E.sz + E.sz) = E.cells y ++ (E.flat l).take (i * E.sz):=by
      rw [List.take_append,List.take_of_length_le (by omega),hl,show i * E.sz + E.sz - E.sz = i * E.sz from by omega]
    have h2:(E.cells y ++ E.flat l).drop (i * E.sz + E.sz + E.sz) = (E.flat l).drop (i * E.sz + E.sz):=by
      rw [List.drop_append,List.drop_of_length_le (by omega),hl,show i * E.sz + E.sz + E.sz - E.sz = i * E.sz + E.sz from by omega,List.nil_append]
    rw [h1,h2,List.append_assoc,List.append_assoc,List.append_assoc]
/-- The value v stands for the list l; its cells lie in a block of which S says yes. -/
def At (E : Enc α) (S : Nat → Prop) (w : World) (v : Value) (l : List α) : Prop :=
  (∃ ao cap,v = .slice ao 0 cap/\l = []) ∨
  (∃ b off cap,v = .slice (some ⟨b,off,none⟩) l.length cap/\S b/\b < w.heap.size/\0 < l.length/\l.length<=cap/\cap<=maxLen /\
    ∀ j u,(E.flat l)[j]? = some u->w.cell? ⟨b,off + j,none⟩ = some u)
theorem cell_block {w w':World} {p:Addr} (h:w'.heap[p.block]? = w.heap[p.block]?):w'.cell? p = w.cell? p:=by
  unfold World.cell?
  rw [h]
theorem At.keep {E:Enc α} {S T:Nat->Prop} {w w':World} {v:Value} {l:List α} (h:At E S w v l) (hs:w.heap.size<=w'.heap.size) (hk:∀ b,S b->b < w.heap.size->w'.heap[b]? = w.heap[b]?/\T b):At E T w' v l:=by
  rcases h with h | ⟨b,off,cap,rfl,hS,hb,hp,hc,hm,hx⟩
  · exact .inl h
  · have := hk b hS hb
    exact .inr ⟨b,off,cap,rfl,this.2,by omega,hp,hc,hm,fun j u hj=>(cell_block this.1).trans (hx j u hj)⟩
theorem At.imp {E:Enc α} {S T:Nat->Prop} {w:World} {v:Value} {l:List α} (h:At E S w v l) (hk:∀ b,S b->b < w.heap.size->T b):At E T w v l:=h.keep (Nat.le_refl _) fun b hb hl=>⟨rfl,hk b hb hl⟩
/-- Wherever it lies. -/
abbrev AtW (E:Enc α) (w:World) (v:Value) (l:List α):Prop:=At E (fun _=>True) w v l
theorem At.wide {E:Enc α} {S:Nat->Prop} {w:World} {v:Value} {l:List α} (h:At E S w v l):AtW E w v l:=h.imp fun _ _ _=>trivial
theorem At.up {E:Enc α} {S:Nat->Prop} {w w':World} {v:Value} {l:List α} (h:At E S w v l) (hb:Below w.heap.size w w'):At E S w' v l:=h.keep hb.size fun b hS hl=>⟨hb.block b hl,hS⟩
theorem At.grown {E:Enc α} {S:Nat->Prop} {w w':World} {v:Value} {l:List α} {row:Option Nat} (h:At E S w v l) (hg:w.grownBy w' row) (hr:∀ g,row = some g->¬ S g):At E S w' v l:=h.keep hg.size fun b hS hl =>
  ⟨hg.block b hl (fun e=>hr b e.symm hS),hS⟩
theorem At.open {E:Enc α} {S:Nat->Prop} {w:World} {v:Value} {l:List α} (h:At E S w v l):∃ ao cap,v = .slice ao l.length cap/\l.length<=maxLen /\
    ∀ i x,l[i]? = some x->∃ b off,ao = some ⟨b,off,none⟩/\S b/\b < w.heap.size/\∀ k u,(E.cells x)[k]? = some u->w.cell? ⟨b,off + (i * E.sz + k),none⟩ = some u:=by
  rcases h with ⟨ao,cap,rfl,rfl⟩ | ⟨b,off,cap,rfl,hS,hb,_,hc,hm,hx⟩
  · exact ⟨ao,cap,rfl,by simp,fun j x hj=>by simp at hj⟩
  · exact ⟨_,cap,rfl,by omega,fun i x hi=>⟨b,off,rfl,hS,hb,fun k u hu=>hx _ _ (E.flat_at l i x hi k u hu)⟩⟩
theorem At.src {E:Enc α} {S:Nat->Prop} {P:Program} {w:World} {v:Value} {l:List α} {t e:TypeId} (hk:P.underlying t = some (.slice e)) (h:At E S w v l):Src P E.sz t v l.length (E.flat l) w:=by
  rcases h with ⟨ao,cap,rfl,rfl⟩ | ⟨b,off,cap,rfl,hS,hlt,_,hc,hm,hx⟩
  · cases ao with
    | none=>exact Src.ofNil w hk cap
    | some a=>exact Src.ofSlice w hk a 0 cap [] (by simp) (fun j u hj=>by simp at hj) (fun u hu=>by cases hu)
  · exact Src.ofSlice w hk _ _ cap _ (E.flat_length l) (fun j u hj=>by rw [WideShapes.add_plain];exact hx j u hj) (E.flat_one l)
theorem At.nil {E:Enc α} {S:Nat->Prop} {w:World}:At E S w (.slice none 0 0) []:=.inl ⟨_,_,rfl,rfl⟩
/-- A row in the program's own memory, from block B on; elements of type e. -/
def Row (E:Enc α) (w:World) (B:Nat) (e:TypeId) (v:Value) (ls:List α):Prop :=
  (v = .slice none 0 0/\ls = []) ∨
  ∃ g cap cur,v = .slice (some ⟨g,0,none⟩) ls.length cap/\B<=g/\w.heap[g]? = some (.cells cur e (0,0))/\ls.length<=cap/\cap<=maxLen/\cap * E.sz<=cur.size/\cur.toList.take (ls.length * E.sz) = E.flat ls
theorem Row.nil (E:Enc α) (w:World) (B:Nat) (e:TypeId):Row E w B e (.slice none 0 0) []:=.inl ⟨rfl,rfl⟩
theorem Row.slice {E:Enc α} {w:World} {B:Nat} {e:TypeId} {v:Value} {ls:List α} (h:Row E w B e v ls):∃ p c,v = .slice p ls.length c:=by
  rcases h with ⟨rfl,rfl⟩ | ⟨g,cap,cur,rfl,_⟩
  · exact ⟨_,_,rfl⟩
  · exact ⟨_,_,rfl⟩
theorem Row.lt {E:Enc α} {w:World} {B:Nat} {e:TypeId} {v:Value} {ls:List α} (h:Row E w B e v ls):∀ k,v.ownBlock = some k->B<=k/\k < w.heap.size:=by
  rcases h with ⟨rfl,rfl⟩ | ⟨g,cap,cur,rfl,hB,hg,_⟩
  · intro k hk;simp [Value.ownBlock] at hk
  · intro k hk
    simp [Value.ownBlock] at hk
    subst hk
    exact ⟨hB,(Array.getElem?_eq_some_iff.1 hg).1⟩
theorem Row.kept {E:Enc α} {w w':World} {B:Nat} {e:TypeId} {v:Value} {ls:List α} {row:Option Nat} (h:Row E w B e v ls) (hg:w.grownBy w' row) (hne:v.ownBlock = none∨v.ownBlock≠row):Row E w' B e v ls:=by
  rcases h with h | ⟨g,cap,cur,rfl,hB,hh,h1,h2,h3,h4⟩
  · exact .inl h
  · refine .inr ⟨g, cap, cur, rfl, hB, ?_, h1, h2, h3, h4⟩
    rw [hg.block g (Array.getElem?_eq_some_iff.1 hh).1 ?_,hh]
    rcases hne with hne | hne
    · simp [Value.ownBlock] at hne
    · simpa [Value.ownBlock] using hne
theorem Row.still {E:Enc α} {w w':World} {B:Nat} {e:TypeId} {v:Value} {ls:List α} (h:Row E w B e v ls) (hg:w.grownBy w' none):Row E w' B e v ls:=h.kept hg (by cases hv:v.ownBlock <;> simp)
theorem Row.up {E:Enc α} {w w':World} {B:Nat} {e:TypeId} {v:Value} {ls:List α} (h:Row E w B e v ls) (hb:Below w.heap.size w w'):Row E w' B e v ls:=h.still (grown_of_below hb none)
theorem Row.drew {E:Enc α} {w:World} {B:Nat} {e:TypeId} {v:Value} {ls:List α} (h:Row E w B e v ls) (q:Nat):Row E (w.drewN q) B e v ls:=h
theorem Row.at {E:Enc α} {w:World} {B:Nat} {e:TypeId} {v:Value} {ls:List α} (h:Row E w B e v ls):At E (fun b=>B<=b) w v ls:=by
  rcases h with ⟨rfl,rfl⟩ | ⟨g,cap,cur,rfl,hB,hh,h1,h2,h3,h4⟩
  · exact .inl ⟨_,_,rfl,rfl⟩
  · by_cases hp : 0 < ls.length
    · refine .inr ⟨g, 0, cap, rfl, hB, (Array.getElem?_eq_some_iff.1 hh).1, hp, h1, h2, fun j u hj => ?_⟩
      have hlt:j < (E.flat ls).length:=(List.getElem?_eq_some_iff.1 hj).1
      rw [E.flat_length] at hlt
      rw [← h4,List.getElem?_take_of_lt hlt,Array.getElem?_toList] at hj
      simp only [World.cell?,hh,Option.isSome_none,Bool.false_eq_true,if_false,Nat.zero_add]
      exact hj
    · have : ls = [] := List.eq_nil_of_length_eq_zero (by omega)
      subst this
      exact .inl ⟨_,_,rfl,rfl⟩
section
variable {P:Program} (w:World)
theorem Row.append_run (E : Enc α) (S : Nat → Prop) (B : Nat) (t ty e : TypeId) (i : TypeInfo) (z : Value) (bytes : Nat) (ht : P.underlying t = some (.slice e)) (hi : P.info? e = some i) (hz : i.zero = some z) (hsize : i.size = E.sz) (hby : i.bytes = bytes) (hzs : z.cells.size = E.sz)
    (v:Value) (ls:List α) (hrow:Row E w B e v ls) (x:Value) (xs:List α) (hx:At E S w x xs) (h63:ls.length + xs.length<=maxLen) (hbytes:(ls.length + xs.length + (ls.length + xs.length) / 4 + 192) * bytes<=281474976710656) (hbase:B<=w.heap.size) :
    ∃ v' w',(Builtin.append_ #[t,t] ty #[v,x]).run P w = .ok v' w'/\Row E w' B e v' (ls ++ xs)/\w.grownBy w' v.ownBlock/\(v'.ownBlock = v.ownBlock∨∀ j,v'.ownBlock = some j->w.heap.size<=j):=by
  have hs:Src P i.size t x xs.length (E.flat xs) w:=by rw [hsize];exact hx.src ht
  have hl:=E.flat_length xs
  have hll:=E.flat_length ls
  have hlen:(E.flat (ls ++ xs)).length = (ls.length + xs.length) * E.sz:=by rw [E.flat_length];simp
  have hsmall:ls.length + xs.length<=9223372036854775807:=by simp only [maxLen] at h63;omega
  have hmul:(ls.length + xs.length) * E.sz = ls.length * E.sz + xs.length * E.sz:=Nat.add_mul _ _ _
  subst hby
  have grown:∀ (old:Nat),old < ls.length + xs.length->∀ (row:Option Nat),
      Row E (w.drew.alloc (.cells ((E.flat ls ++ E.flat xs).toArray ++ Builtin.zeroCells z.cells (grownCap w (ls.length + xs.length) old e - (ls.length + xs.length))) e)) B e
        (.slice (some ⟨w.heap.size,0,none⟩) (ls.length + xs.length) (grownCap w (ls.length + xs.length) old e)) (ls ++ xs) /\
      w.grownBy (w.drew.alloc (.cells ((E.flat ls ++ E.flat xs).toArray ++ Builtin.zeroCells z.cells (grownCap w (ls.length + xs.length) old e - (ls.length + xs.length))) e)) row:=by
    intro old ho row
    have hge:=grownCap_ge w (ls.length + xs.length) old e
    have hcm:grownCap w (ls.length + xs.length) old e<=maxLen:=grownCap_le_maxLen w (ls.length + xs.length) old e h63
    refine ⟨.inr ⟨w.heap.size,_,_,by simp,hbase,heap_alloc_new w.drew _,by simpa using hge,hcm,?_,?_⟩,⟨rfl,rfl,rfl,by simp,fun k hk _=>Below.heap_alloc w.drew _ k hk⟩⟩
    · simp only [Array.size_append, List.size_toArray, List.length_append, size_zeroCells, hzs, hl, hll]
      generalize grownCap w (ls.length + xs.length) old e = G at hge ⊢
      rw [← Nat.add_mul,← Nat.add_mul]
      exact Nat.mul_le_mul_right _ (by omega)
    · simp only [Array.toList_append]
      rw [E.flat_append,show (ls ++ xs).length * E.sz = (E.flat ls ++ E.flat xs).length from by simp only [List.length_append,hl,hll];exact hmul]
      exact List.take_left
  rcases hrow with ⟨rfl,rfl⟩ | ⟨g,cap,cur,rfl,hB,hg,h1,h2,h3,h4⟩
  · by_cases hm : xs.length = 0
    · have hxs : xs = [] := List.eq_nil_of_length_eq_zero hm
      subst hxs
      refine ⟨.slice none 0 0,w,?_,Row.nil E w B e,grown_refl _ _,.inl rfl⟩
      rcases hs.kind with ⟨e',hk⟩ | hk
      · have hsl := hs.len
        have hsc:=hs.cells
        simp only [List.length_nil] at hsl hsc
        simp [Builtin.append_,run_underlying ht,sizeOf,typeInfo,hi,hsl,hsc,Enc.flat]
      · rw [ht] at hk;cases hk
    · have hr := run_append_grow_src (P := P) w t t ty e i z ht hi hz none 0 0 [] (run_firstCells_none w.drew _ _ _ _) x xs.length (E.flat xs) hs (by omega) (by omega) (growslice_fits_wide (by omega) (by simpa using hbytes))
      have hgr:=grown 0 (by simp;omega) (Value.ownBlock (.slice none 0 0))
      simp only [List.length_nil,Nat.zero_add,Enc.flat,List.flatMap_nil,List.nil_append] at hgr hr ⊢
      exact ⟨_,_,hr,hgr.1,hgr.2,.inr (fun j hj=>by simp [Value.ownBlock] at hj;omega)⟩
  · by_cases hroom : ls.length + xs.length ≤ cap
    · have hmc : (ls.length + xs.length) * E.sz ≤ cap * E.sz := Nat.mul_le_mul_right _ hroom
      have hfit:0 + ls.length * i.size + (E.flat xs).length<=cur.size:=by rw [hl,hsize];omega
      have hst:=run_storeCells_at P g (0 + ls.length * i.size) e (E.flat xs) 0 cur w hg (by simpa using hfit) hs.one
      simp only [Nat.add_zero] at hst
      have hr:(Builtin.append_ #[t,t] ty #[.slice (some ⟨g,0,none⟩) ls.length cap,x]).run P w = .ok (.slice (some ⟨g,0,none⟩) (ls.length + xs.length) cap) (w.setRow g (cur.toList.take (0 + ls.length * i.size) ++ E.flat xs ++ cur.toList.drop (0 + ls.length * i.size + (E.flat xs).length)).toArray):=by
        simp only [Nat.zero_add] at hst ⊢
        simp [Builtin.append_,run_underlying ht,sizeOf,typeInfo,hi,hs.len,hroom,hs.cells,Addr.add_lit,hst]
      refine ⟨_,_,hr,.inr ⟨g,cap,_,by simp,hB,setRow_heap w g cur _ e _ hg,by simpa using hroom,h2,?_,?_⟩,⟨rfl,rfl,rfl,by simp,fun k _ hk=>setRow_other w g k _ (fun e=>hk (by simp [Value.ownBlock,e]))⟩,.inl rfl⟩
      · simp only [List.size_toArray, List.length_append, List.length_take, List.length_drop, Array.length_toList]
        omega
      · rw [hsize, List.append_assoc, Nat.zero_add, h4, E.flat_append, ← List.append_assoc, show (ls ++ xs).length * E.sz = (E.flat ls ++ E.flat xs).length from by simp only [List.length_append, hl, hll]; exact hmul]
        exact List.take_left
    · have hi2 := (show Row E w B e (.slice (some ⟨g, 0, none⟩) ls.length cap) ls from .inr ⟨g, cap, cur, rfl, hB, hg, h1, h2, h3, h4⟩).at
      have holds:∀ j u,(E.flat ls)[j]? = some u->w.cell? ((⟨g,0,none⟩:Addr).add j) = some u:=by
        rcases hi2 with ⟨ao,c,he,h0⟩ | ⟨b,o,c,he,_,_,_,_,_,hx'⟩
        · subst h0
          intro j u hj
          simp [Enc.flat] at hj
        · simp only [Value.slice.injEq, Option.some.injEq, Addr.mk.injEq, and_true, true_and] at he
          obtain ⟨⟨rfl,rfl⟩,rfl⟩:=he
          intro j u hj
          rw [WideShapes.add_plain]
          exact hx' j u hj
      have hr:=run_append_grow_src (P:=P) w t t ty e i z ht hi hz (some ⟨g,0,none⟩) ls.length cap (E.flat ls) (run_firstCells_some w.drew _ _ _ _ _ (E.flat ls) (by rw [hsize];exact hll) (by simpa using holds)) x xs.length (E.flat xs) hs (by omega) (by omega) (growslice_fits_wide (by omega) hbytes)
      have hgr:=grown cap (by omega) (Value.ownBlock (.slice (some ⟨g,0,none⟩) ls.length cap))
      exact ⟨_,_,hr,hgr.1,hgr.2,.inr (fun j hj=>by simp [Value.ownBlock] at hj;omega)⟩
theorem wpList_row {ops:Array Oper} {rest:List Oper} {o:Oper} {a:Act} {Q:Exit->Act->World->Prop} (hgd:o.guard = none) (s x:Operand) (t:TypeId)
    (ho:o.op = .call { callee:=.builtin .append,args:=#[s,x],argTypes:=#[t,t] }) (E:Enc α) (S:Nat->Prop)
    (B:Nat) (e:TypeId) (i:TypeInfo) (z:Value) (bytes:Nat) (ht:P.underlying t = some (.slice e)) (hi:P.info? e = some i) (hz:i.zero = some z) (hsize:i.size = E.sz) (hby:i.bytes = bytes) (hzs:z.cells.size = E.sz)
    (v:Value) (ls:List α) (hv:a.eval s = v) (hrow:Row E w B e v ls) (xv:Value) (xs:List α) (hxv:a.eval x = xv) (hx:At E S w xv xs) (h63:ls.length + xs.length<=maxLen) (hbytes:(ls.length + xs.length + (ls.length + xs.length) / 4 + 192) * bytes<=281474976710656) (hbase:B<=w.heap.size)
    (h:∀ v' w',Row E w' B e v' (ls ++ xs)->w.grownBy w' v.ownBlock->(v'.ownBlock = v.ownBlock∨∀ j,v'.ownBlock = some j->w.heap.size<=j)->wpList P ops Q rest (a.put o.dst v') w'):wpList P ops Q (o :: rest) a w :=
  wpList_plain hgd fun _ hK=>by
    obtain ⟨v',w',hr,h2,h3,h4⟩:=Row.append_run (P:=P) w E S B t o.type e i z bytes ht hi hz hsize hby hzs v ls hrow xv xs hx h63 hbytes hbase
    unfold Oper.wp execOp
    simp only [ho,resolve,invoke,builtin,Sem.run_bind,Sem.run_pure,Result.andThen_ok,List.map_toArray,List.map_cons,List.map_nil,hv,hxv,hr]
    exact hK _ _ (h v' w' h2 h3 h4)
end
end Go.Proofs.YtggoccfddnpelaaGreat
namespace Go.Proofs.YtggoccfddnpelaaGreat
open Go.ChangeShapes Go.WideShapes Go.ChangeAt Go.RowKit Go.Deep
set_option maxRecDepth 100000
/-- The value v stands for the list l of fields, whose cells lie below block number B. -/
def FieldsAt (B : Nat) (w : World) (v : Value) (l : List (Int × ByteArray)) : Prop :=
  (∃ ao cap,v = .slice ao 0 cap/\l = []) ∨
  (∃ b off cap,v = .slice (some ⟨b,off,none⟩) l.length cap/\b < B/\0 < l.length/\l.length<=cap/\cap<=maxLen /\
    ∀ i,i < l.length->w.cell? ⟨b,off + i * 2,none⟩ = some (.int .i64 (l.getD i (0,.empty)).1)/\w.cell? ⟨b,off + i * 2 + 1,none⟩ = some (.string (l.getD i (0,.empty)).2))
theorem FieldsAt.below {B C:Nat} {w w':World} {v:Value} {l:List (Int × ByteArray)} (h:FieldsAt B w v l) (hb:Below C w w') (hC:B<=C):FieldsAt B w' v l:=by
  rcases h with h | ⟨b,off,cap,hv,hB,hp,hc,hm,hx⟩
  · exact .inl h
  · refine .inr ⟨b, off, cap, hv, hB, hp, hc, hm, fun i hi => ?_⟩
    rw [hb.cell (p:=⟨b,off + i * 2,none⟩) (by show b < C;omega),hb.cell (p:=⟨b,off + i * 2 + 1,none⟩) (by show b < C;omega)]
    exact hx i hi
theorem FieldsAt.mono {B C:Nat} {w:World} {v:Value} {l:List (Int × ByteArray)} (h:FieldsAt B w v l) (hC:B<=C):FieldsAt C w v l:=by
  rcases h with h | ⟨b,off,cap,hv,hB,hp,hc,hm,hx⟩
  · exact .inl h
  · exact .inr ⟨b,off,cap,hv,by omega,hp,hc,hm,hx⟩
theorem FieldsAt.open {B:Nat} {w:World} {v:Value} {l:List (Int × ByteArray)} (h:FieldsAt B w v l):∃ ao cap,v = .slice ao l.length cap/\l.length<=maxLen/\∀ j,j < l.length->∃ b off,ao = some ⟨b,off,none⟩/\b < B/\w.cell? ⟨b,off + j * 2,none⟩ = some (.int .i64 (l.getD j (0,.empty)).1)/\w.cell? ⟨b,off + j * 2 + 1,none⟩ = some (.string (l.getD j (0,.empty)).2):=by
  rcases h with ⟨ao,cap,rfl,rfl⟩ | ⟨b,off,cap,rfl,hlt,_,hc,hm,hx⟩
  · exact ⟨ao,cap,rfl,by simp,fun j hj=>by simp at hj⟩
  · exact ⟨_,cap,rfl,by omega,fun j hj=>⟨b,off,rfl,hlt,hx j hj⟩⟩
def ER:Enc (Int × ByteArray):=⟨2,fun x=>[.int .i64 x.1,.string x.2],fun _=>rfl,fun x u hu=>by
  simp at hu
  rcases hu with rfl | rfl <;> rfl⟩
theorem At.fields {S:Nat->Prop} {w:World} {v:Value} {l:List (Int × ByteArray)} (h:At ER S w v l):FieldsAt w.heap.size w v l:=by
  rcases h with h | ⟨b,off,cap,rfl,_,hB,hp,hc,hm,hx⟩
  · exact .inl h
  · refine .inr ⟨b, off, cap, rfl, hB, hp, hc, hm, fun i hi => ?_⟩
    have hi':l[i]? = some (l.getD i (0,.empty)):=by simp [List.getD,hi]
    have h0:=hx _ _ (ER.flat_at l i _ hi' 0 _ rfl)
    have h1:=hx _ _ (ER.flat_at l i _ hi' 1 _ rfl)
    exact ⟨h0,by rw [Nat.add_assoc];exact h1⟩
theorem FieldsAt.up {w w':World} {v:Value} {l:List Bl.R} (h:FieldsAt w.heap.size w v l) (hb:Below w.heap.size w w'):FieldsAt w'.heap.size w' v l:=(h.below hb (Nat.le_refl _)).mono hb.size
theorem laidOut:laidOutB Tryz.prog = true:=by kernel_rfl
theorem own:ownKnob Tryz.prog.godebug = none:=by kernel_rfl
abbrev BR (a:Int) (s:ByteArray):Obj:=.cells #[.int .i64 a,.string s] 67
theorem bend_any (a:Int) (s:ByteArray) (w:World) (h0:-9223372036854775808<=a) (h1:a + s.size<=9223372036854775807) :
    Calls Tryz.prog 162 #[.agg #[.int .i64 a,.string s]] w fun e w'=>e = .returned (.int .i64 (a + s.size))/\w' = w.alloc (BR a s):=by
  go_enter Tryz.func162,Tryz.ntmps162
  go_wp2
  go_ret
  exact ⟨rfl,rfl⟩
abbrev BA (k l s t:Int):Obj:=.cells #[.int .i64 k,.int .i64 l,.int .i64 s,.int .i64 t] 48
abbrev VA (k l s t:Int):Value:=.agg #[.int .i64 k,.int .i64 l,.int .i64 s,.int .i64 t]
theorem awithin_any (lo x hi:Int) (w:World):Calls Tryz.prog 105 #[.int .i64 lo,.int .i64 x,.int .i64 hi] w fun e w'=>e = .returned (.bool (decide (lo<=x/\x<=hi)))/\w' = w:=by
  by_cases h1:lo<=x
  · by_cases h2 : x ≤ hi
    · rw [decide_eq_true (show lo ≤ x ∧ x ≤ hi from ⟨h1, h2⟩)]
      go_enter Tryz.func105,Tryz.ntmps105
      go_wp2
      go_ret
      exact ⟨rfl,rfl⟩
    · rw [decide_eq_false (show ¬ (lo ≤ x ∧ x ≤ hi) from fun h => h2 h.2)]
      go_enter Tryz.func105,Tryz.ntmps105
      go_wp2
      go_ret
      exact ⟨rfl,rfl⟩
  · rw [decide_eq_false (show ¬ (lo ≤ x ∧ x ≤ hi) from fun h => h1 h.1)]
    go_enter Tryz.func105,Tryz.ntmps105
    go_wp2
    go_ret
    exact ⟨rfl,rfl⟩
theorem awithin_yes (lo x hi:Int) (w:World) (h:lo<=x/\x<=hi):Calls Tryz.prog 105 #[.int .i64 lo,.int .i64 x,.int .i64 hi] w fun e w'=>e = .returned (.bool true)/\w' = w:=by
  have:=awithin_any lo x hi w
  rwa [decide_eq_true h] at this
theorem awithin_no (lo x hi:Int) (w:World) (h:¬ (lo<=x/\x<=hi)):Calls Tryz.prog 105 #[.int .i64 lo,.int .i64 x,.int .i64 hi] w fun e w'=>e = .returned (.bool false)/\w' = w:=by
  have:=awithin_any lo x hi w
  rwa [decide_eq_false h] at this
set_option maxHeartbeats 1000000 in
theorem acheck_yes (k l s t:Int) (w:World) (h:At.right k l s t = true):Calls Tryz.prog 71 #[VA k l s t] w fun e w'=>e = .returned (.int .i64 0)/\w' = w.alloc (BA k l s t):=by
  rcases At.right_iff.1 h with ⟨rfl,rfl,rfl,rfl⟩ | ⟨hs,ht,⟨rfl,hl⟩ | ⟨rfl,rfl⟩⟩
  · clear h
    go_enter Tryz.func71,Tryz.ntmps71
    go_wp2
    go_ret
    exact ⟨rfl,rfl⟩
  · have HS : Hid ((0 ≤ l ∧ l ≤ 64) ∧ (0 ≤ s ∧ s ≤ 1048576) ∧ (0 ≤ t ∧ t ≤ 1099511627776)) := ⟨hl, hs, ht⟩
    clear h hl hs ht
    go_enter Tryz.func71,Tryz.ntmps71
    go_wp2_with fail
    refine (awithin_yes _ _ _ _ HS.out.1).mono ?_
    rintro e w' ⟨rfl,rfl⟩
    go_wp2_with fail
    refine (awithin_yes _ _ _ _ HS.out.2.1).mono ?_
    rintro e w' ⟨rfl,rfl⟩
    go_wp2_with fail
    refine (awithin_yes _ _ _ _ HS.out.2.2).mono ?_
    rintro e w' ⟨rfl,rfl⟩
    go_wp2
    go_ret
    exact ⟨rfl,rfl⟩
  · have HS : Hid ((0 ≤ s ∧ s ≤ 1048576) ∧ (0 ≤ t ∧ t ≤ 1099511627776)) := ⟨hs, ht⟩
    clear h hs ht
    go_enter Tryz.func71,Tryz.ntmps71
    go_wp2_with fail
    refine (awithin_yes _ _ _ _ (by decide)).mono ?_
    rintro e w' ⟨rfl,rfl⟩
    go_wp2_with fail
    refine (awithin_yes _ _ _ _ HS.out.1).mono ?_
    rintro e w' ⟨rfl,rfl⟩
    go_wp2_with fail
    refine (awithin_yes _ _ _ _ HS.out.2).mono ?_
    rintro e w' ⟨rfl,rfl⟩
    go_wp2
    go_ret
    exact ⟨rfl,rfl⟩
theorem acheck_file (l s t:Int) (w:World) (h:¬ ((0<=l/\l<=64)/\(0<=s/\s<=1048576)/\(0<=t/\t<=1099511627776))):Calls Tryz.prog 71 #[VA 1 l s t] w fun e w'=>e = .returned (.int .i64 70)/\w' = w.alloc (BA 1 l s t):=by
  by_cases h1:0<=l/\l<=64
  · by_cases h2 : 0 ≤ s ∧ s ≤ 1048576
    · have H1 : Hid ((0 ≤ l ∧ l ≤ 64) ∧ (0 ≤ s ∧ s ≤ 1048576) ∧ ¬ (0 ≤ t ∧ t ≤ 1099511627776)) := ⟨h1, h2, fun h3 => h ⟨h1, h2, h3⟩⟩
      clear h1 h2 h
      go_enter Tryz.func71,Tryz.ntmps71
      go_wp2_with fail
      refine (awithin_yes _ _ _ _ H1.out.1).mono ?_
      rintro e w' ⟨rfl,rfl⟩
      go_wp2_with fail
      refine (awithin_yes _ _ _ _ H1.out.2.1).mono ?_
      rintro e w' ⟨rfl,rfl⟩
      go_wp2_with fail
      refine (awithin_no _ _ _ _ H1.out.2.2).mono ?_
      rintro e w' ⟨rfl,rfl⟩
      go_wp2
      go_ret
      exact ⟨rfl,rfl⟩
    · have H1 : Hid ((0 ≤ l ∧ l ≤ 64) ∧ ¬ (0 ≤ s ∧ s ≤ 1048576)) := ⟨h1, h2⟩
      clear h1 h2 h
      go_enter Tryz.func71,Tryz.ntmps71
      go_wp2_with fail
      refine (awithin_yes _ _ _ _ H1.out.1).mono ?_
      rintro e w' ⟨rfl,rfl⟩
      go_wp2_with fail
      refine (awithin_no _ _ _ _ H1.out.2).mono ?_
      rintro e w' ⟨rfl,rfl⟩
      go_wp2
      go_ret
      exact ⟨rfl,rfl⟩
  · have H1 : Hid (¬ (0 ≤ l ∧ l ≤ 64)) := h1
    clear h1 h
    go_enter Tryz.func71,Tryz.ntmps71
    go_wp2_with fail
    refine (awithin_no _ _ _ _ H1.out).mono ?_
    rintro e w' ⟨rfl,rfl⟩
    go_wp2
    go_ret
    exact ⟨rfl,rfl⟩
theorem acheck_dir (s t:Int) (w:World) (h:¬ ((0<=s/\s<=1048576)/\(0<=t/\t<=1099511627776))):Calls Tryz.prog 71 #[VA 2 1 s t] w fun e w'=>e = .returned (.int .i64 70)/\w' = w.alloc (BA 2 1 s t):=by
  by_cases h2:0<=s/\s<=1048576
  · have H1 : Hid ((0 ≤ s ∧ s ≤ 1048576) ∧ ¬ (0 ≤ t ∧ t ≤ 1099511627776)) := ⟨h2, fun h3 => h ⟨h2, h3⟩⟩
    clear h2 h
    go_enter Tryz.func71,Tryz.ntmps71
    go_wp2_with fail
    refine (awithin_yes _ _ _ _ (by decide)).mono ?_
    rintro e w' ⟨rfl,rfl⟩
    go_wp2_with fail
    refine (awithin_yes _ _ _ _ H1.out.1).mono ?_
    rintro e w' ⟨rfl,rfl⟩
    go_wp2_with fail
    refine (awithin_no _ _ _ _ H1.out.2).mono ?_
    rintro e w' ⟨rfl,rfl⟩
    go_wp2
    go_ret
    exact ⟨rfl,rfl⟩
  · have H1 : Hid (¬ (0 ≤ s ∧ s ≤ 1048576)) := h2
    clear h2 h
    go_enter Tryz.func71,Tryz.ntmps71
    go_wp2_with fail
    refine (awithin_yes _ _ _ _ (by decide)).mono ?_
    rintro e w' ⟨rfl,rfl⟩
    go_wp2_with fail
    refine (awithin_no _ _ _ _ H1.out).mono ?_
    rintro e w' ⟨rfl,rfl⟩
    go_wp2
    go_ret
    exact ⟨rfl,rfl⟩
set_option maxHeartbeats 1000000 in
theorem acheck_no (k l s t : Int) (w : World) (h : At.right k l s t = false) : Calls Tryz.prog 71 #[VA k l s t] w fun e w' => e = .returned (.int .i64 70) ∧ w' = w.alloc (BA k l s t) := by
  have hw:=At.wrong_iff.1 h
  clear h
  unfold At.rightP at hw
  by_cases k1:k = 1
  · subst k1
    exact acheck_file l s t w (fun h=>hw (.inr ⟨h.2.1,h.2.2,.inl ⟨rfl,h.1⟩⟩))
  by_cases k2:k = 2
  · by_cases l1 : l = 1
    · subst k2
      subst l1
      exact acheck_dir s t w (fun h=>hw (.inr ⟨h.1,h.2,.inr ⟨rfl,rfl⟩⟩))
    · subst k2
      clear hw
      go_enter Tryz.func71,Tryz.ntmps71
      go_wp2
      go_ret
      exact ⟨rfl,rfl⟩
  by_cases k0:k = 0
  · subst k0
    have hz:((l == 0) && ((s == 0) && (t == 0))) = false:=by
      rw [Bool.eq_false_iff]
      intro h
      simp at h
      exact hw (.inl ⟨rfl,h.1,h.2.1,h.2.2⟩)
    by_cases l0:l = 0
    · by_cases s0 : s = 0
      · have t0 : ¬ t = 0 := fun h => hw (.inl ⟨rfl, l0, s0, h⟩)
        clear hz hw k1 k2
        subst l0
        subst s0
        go_enter Tryz.func71,Tryz.ntmps71
        go_wp2
        go_ret
        exact ⟨rfl,rfl⟩
      · clear hz hw k1 k2
        subst l0
        go_enter Tryz.func71,Tryz.ntmps71
        go_wp2
        go_ret
        exact ⟨rfl,rfl⟩
    · clear hz hw k1 k2
      go_enter Tryz.func71,Tryz.ntmps71
      go_wp2
      go_ret
      exact ⟨rfl,rfl⟩
  · clear hw
    go_enter Tryz.func71,Tryz.ntmps71
    go_wp2
    go_ret
    exact ⟨rfl,rfl⟩
set_option maxHeartbeats 1000000 in
theorem bcheck_any (v : Value) (l : List Bl.R) (w : World) (hv : FieldsAt w.heap.size w v l) (hok : okFields l) :
    Calls Tryz.prog 146 #[v] w fun e w'=>e = .returned (.int .i64 (Bl.err l))/\Below w.heap.size w w':=by
  obtain ⟨ao,cap,rfl,hm,hx⟩:=hv.open
  clear hv
  unfold maxLen at hm
  obtain ⟨n,hn⟩:∃ n,l.length = n:=⟨_,rfl⟩
  rw [hn] at hm hx ⊢
  have HN:Hid (l.length = n):=hn
  have HX:Hid (∀ j,j < n->∃ b off,ao = some ⟨b,off,none⟩/\b < w.heap.size/\w.cell? ⟨b,off + j * 2,none⟩ = some (.int .i64 (l.getD j (0,.empty)).1)/\w.cell? ⟨b,off + j * 2 + 1,none⟩ = some (.string (l.getD j (0,.empty)).2)):=hx
  have HO:Hid (okFields l):=hok
  clear hn hx hok
  go_enter Tryz.func146,Tryz.ntmps146
  go_wp2
  go_loopw [3,8] (fun t i wr=>∃ k:Nat,k<=n/\i = .int .i64 k/\t = .int .i64 (Bl.lastEnd (-1) (l.take k))/\Bl.right (-1) (l.take k)/\Below w.heap.size w wr) (fun _ i _=>n - (intOf i).toNat)
  case atStart=>exact ⟨0,Nat.zero_le _,rfl,rfl,trivial,Below.refl _ _⟩
  case round =>
    obtain ⟨k,hk,rfl,rfl,hr,hbl⟩:=hrel
    have hsz:=hbl.size
    obtain ⟨hb0,hb1⟩:=Bl.lastEnd_bd hr
    obtain ⟨la,hla⟩:∃ la,Bl.lastEnd (-1) (l.take k) = la:=⟨_,rfl⟩
    rw [hla] at hb0 hb1 ⊢
    have HLA:Hid (Bl.lastEnd (-1) (l.take k) = la):=hla
    have HR:Hid (Bl.right (-1) (l.take k)):=hr
    clear hla hr
    by_cases hlt:k < n
    · obtain ⟨b, off, rfl, hB, c0, c1⟩ := HX.out k hlt
      have hk':k < l.length:=by rw [HN.out];exact hlt
      have hof:=HO.out.at hk'
      rw [← hbl.cell (p:=⟨b,off + k * 2,none⟩) hB] at c0
      rw [← hbl.cell (p:=⟨b,off + k * 2 + 1,none⟩) hB] at c1
      obtain ⟨x,hxk⟩:∃ x,l.getD k (0,.empty) = x:=⟨_,rfl⟩
      rw [hxk] at c0 c1 hof
      have HXK:Hid (l.getD k (0,.empty) = x):=hxk
      clear hxk
      obtain ⟨xa,xs⟩:=x
      simp only at c0 c1 hof
      obtain ⟨⟨ha0,ha1⟩,hs1⟩:=hof
      unfold maxLen at hs1
      have hlt':(k:Int) < (n:Int):=by omega
      by_cases h1:xs.size = 0
      · have H : Hid (Bl.err l = 80) := Bl.err_bad hk' HXK.out (fun h => h.1 h1)
        have h1':((xs.size:Int) == 0) = true:=by simp [h1]
        clear h1
        go_wp2
        go_ret
        rw [H.out]
        exact ⟨rfl,hbl.alloc hsz _⟩
      · have h1' : ((xs.size : Int) == 0) = false := beq_eq_false_iff_ne.2 (by omega)
        by_cases h2:xa<=la
        · have H : Hid (Bl.err l = 80) := Bl.err_bad hk' HXK.out (fun h => by have := h.2.1; rw [HLA.out] at this; simp only at this; omega)
          clear h1
          go_wp2
          go_ret
          rw [H.out]
          exact ⟨rfl,hbl.alloc hsz _⟩
        · by_cases h3 : (1048576 : Int) - xs.size < xa
          · have H : Hid (Bl.err l = 80) := Bl.err_bad hk' HXK.out (fun h => by have := h.2.2; simp only at this; omega)
            clear h1
            go_wp2
            go_ret
            rw [H.out]
            exact ⟨rfl,hbl.alloc hsz _⟩
          · have H1 : Hid (¬ xs.size = 0) := h1
            clear h1
            go_wp2_with fail
            refine (bend_any xa xs _ (by omega) (by omega)).mono ?_
            rintro e w1 ⟨rfl,rfl⟩
            go_wp2
            go_roundw
            case rel=>exact ⟨k + 1,by omega,by go_num,by rw [Bl.lastEnd_succ hk' HXK.out],(Bl.right_take_succ hk' HXK.out).2 ⟨HR.out,H1.out,by rw [HLA.out];simp only;omega,by simp only;omega⟩,(hbl.alloc hsz _).alloc (by simp;omega) _⟩
            case measure=>simp [intOf];omega
    · obtain rfl : k = n := by omega
      have H:Hid (Bl.err l = 0):=by
        have:=HR.out
        rw [← HN.out,List.take_length] at this
        show Bl.err l = 0
        unfold Bl.err
        rw [if_pos this]
      go_wp2
      go_ret
      rw [H.out]
      exact ⟨rfl,hbl⟩
set_option maxHeartbeats 1000000 in
theorem End_any (v : Value) (l : List Bl.R) (w : World) (hv : FieldsAt w.heap.size w v l) (hok : okFields l) :
    Calls Tryz.prog 147 #[v] w fun e w'=>e = .returned (.int .i64 (Bl.endOf l))/\Below w.heap.size w w':=by
  have HV:Hid (FieldsAt w.heap.size w v l):=hv
  obtain ⟨ao,cap,rfl,hm,hx⟩:=hv.open
  clear hv
  unfold maxLen at hm
  by_cases hz:l = []
  · subst hz
    have H:Hid (Bl.endOf [] = 0):=by show Bl.endOf [] = 0;unfold Bl.endOf;split <;> rfl
    rw [H.out]
    go_enter Tryz.func147,Tryz.ntmps147
    go_wp2
    go_ret
    exact ⟨rfl,Below.refl _ _⟩
  · have hp : 0 < l.length := List.length_pos_iff.2 hz
    by_cases hr:Bl.right (-1) l
    · obtain ⟨b, off, rfl, hB, c0, c1⟩ := hx (l.length - 1) (by omega)
      have HE:Hid (Bl.err l = 0):=by show Bl.err l = 0;unfold Bl.err;rw [if_pos hr]
      obtain ⟨x,hxk⟩:∃ x,l.getD (l.length - 1) (0,.empty) = x:=⟨_,rfl⟩
      have hmem:x∈l:=by rw [← hxk];simp [List.getD,List.getElem?_eq_getElem (show l.length - 1 < l.length by omega)]
      obtain ⟨q0,q1,q2⟩:=Bl.right_mem hr _ hmem
      have H:Hid (Bl.endOf l = x.1 + x.2.size):=by
        show Bl.endOf l = _
        have h:=Bl.lastEnd_succ (l:=l) (k:=l.length - 1) (by omega) hxk
        rw [show l.length - 1 + 1 = l.length by omega,List.take_length] at h
        unfold Bl.endOf
        rw [if_pos hr,Bl.lastEnd_ne hz 0 (-1),h]
      rw [hxk] at c0 c1
      obtain ⟨xa,xs⟩:=x
      unfold Bl.rend at q2
      simp only at c0 c1 q0 q1 q2 H
      replace q2:xa + (xs.size:Int)<=1048576:=q2
      obtain ⟨n,hn⟩:∃ n,l.length - 1 = n:=⟨_,rfl⟩
      have hln:l.length = n + 1:=by omega
      rw [hn] at c0 c1
      rw [hln] at HV hm ⊢
      rw [H.out]
      have HO:Hid (okFields l):=hok
      have hnn:((n + 1:Nat):Int) - 1 = (n:Int):=by omega
      clear hxk hmem hx hp hz hn hln hok
      go_enter Tryz.func147,Tryz.ntmps147
      go_wp2_with fail
      refine (bcheck_any _ l _ HV.out HO.out).mono ?_
      rintro e w1 ⟨rfl,hb1⟩
      rw [HE.out]
      rw [← hb1.cell (p:=⟨b,off + n * 2,none⟩) hB] at c0
      rw [← hb1.cell (p:=⟨b,off + n * 2 + 1,none⟩) hB] at c1
      go_wp2_with fail
      refine (bend_any xa xs _ (by omega) (by omega)).mono ?_
      rintro e w2 ⟨rfl,rfl⟩
      go_wp2
      go_ret
      exact ⟨rfl,hb1.alloc hb1.size _⟩
    · have HE : Hid (Bl.err l = 80) := by show Bl.err l = 80; unfold Bl.err; rw [if_neg hr]
      have H:Hid (Bl.endOf l = 0):=by show Bl.endOf l = 0;unfold Bl.endOf;rw [if_neg hr]
      rw [H.out]
      have hp':((l.length:Int) == 0) = false:=beq_eq_false_iff_ne.2 (by omega)
      clear hz
      go_enter Tryz.func147,Tryz.ntmps147
      go_wp2_with fail
      refine (bcheck_any _ l _ HV.out hok).mono ?_
      rintro e w1 ⟨rfl,hb1⟩
      rw [HE.out]
      go_wp2
      go_ret
      exact ⟨rfl,hb1⟩
end Go.Proofs.YtggoccfddnpelaaGreat
