/- Part 1. -/
import Derived.Laws.BitsAllLaws
import Derived.Deep.OwnRows
import Derived.Below
import Derived.Orders
import Derived.WalkKit
import Derived.ProofKit
import Derived.Deep.AppendSrc
import Derived.Deep.DeepAppendWide
import Derived.WalkSmall
import Derived.BigQuiet
import Derived.Deep.QuietTactic
import Derived.Test.YtiifhfmekbhlnaaGreatRows
import Derived.WalkSpells
import Derived.WalkLawsBesides
import Derived.Deep.RegionHeld3
import Derived.Deep.SlicePairs
import Derived.Lib.SmallJoins
import Derived.SizedLaws
set_option maxHeartbeats 8000000
set_option maxRecDepth 100000
namespace Go.Proofs.YtiifhfmekbhlnaaGreat
section
open Go RowKit
abbrev MC:=@if_pos
abbrev MD:=@heap_alloc_new
abbrev ME:=@if_neg
abbrev MF:=@List.getElem?_eq_getElem
abbrev MG:=@List.mem_of_getElem?
abbrev MH:=@Array.getElem?_eq_some_iff
abbrev MI:=@Nat.le_refl
abbrev MJ:=@Below.refl
abbrev MK:=@bodyPost_ret
abbrev ML:=@Below.heap_alloc
abbrev MM:=@Below.heap_setCell
abbrev MN:=@List.getElem?_eq_some_iff
abbrev MO:=@decide_eq_false
abbrev MP:=@Below.setCell
abbrev MQ:=@beq_eq_false_iff_ne
abbrev MR:=@Bool.and_eq_true
abbrev MS:=@Nat.le_trans
abbrev MT:=@decide_eq_true
abbrev MU:=@World.grownBy_alloc
abbrev MV:=@Nat.zero_le
abbrev MW:=@List.length_append
abbrev MX:=@List.eq_nil_of_length_eq_zero
abbrev MY:=@List.take_of_length_le
abbrev MZ:=@List.length_cons
abbrev M1:=@List.mem_iff_getElem?
abbrev M4:=@decide_eq_true_eq
abbrev M5:=@List.length_take
abbrev M6:=@Nat.lt_of_lt_of_le
abbrev M7:=@AllReady.cons
abbrev M8:=@List.length_map
abbrev M9:=@AllReady.nil
abbrev Na:=@List.mem_append
abbrev Nb:=@List.length_nil
abbrev Nc:=@wpAny_ready
abbrev Ng:=@Int.le_refl
abbrev Nh:=@List.getElem?_map
abbrev Ni:=@List.mem_cons
abbrev Nj:=@List.take_append_drop
abbrev Nk:=@World.block_lt_of_cell?
abbrev Nl:=@Sem.run_bind
abbrev Nn:=@results_cell_tmp
abbrev Np:=@List.take_succ_eq_append_getElem
abbrev Nq:=@List.append_assoc
abbrev Nr:=@Below.alloc
abbrev Ns:=@List.take_length
abbrev Nt:=@List.nil_append
abbrev Nu:=@WideShapes.add_plain
abbrev Nv:=@ByteArray.size_append
abbrev Nw:=@Array.getElem?_toList
abbrev Nx:=@List.map_cons
abbrev Ny:=@List.getElem?_set_self
abbrev Nz:=@List.getElem?_set
abbrev NC:=@Nat.add_assoc
abbrev ND:=@ByteArray.toList_eq
abbrev NF:=@List.take_add_one
abbrev NG:=@List.mem_singleton
abbrev NH:=@World.ownsRow_nil
abbrev NI:=@List.mem_map
abbrev NJ:=@run_underlying
abbrev NK:=@List.mem_filter
abbrev NL:=@ByteArray.size_extract
abbrev NM:=@Array.getElem?_eq_none
abbrev NN:=@Array.getElem?_modify
abbrev NO:=@List.map_append
abbrev NP:=@List.countP_append
abbrev NQ:=@info_parts
abbrev NR:=@rounds_succ
abbrev NS:=@Nat.zero_add
abbrev NT:=@List.length_drop
abbrev NU:=@List.cons_append
abbrev NV:=@World.size_alloc
abbrev NW:=@Sem.run_pure
abbrev NX:=@wp_region_any
abbrev NY:=@Option.getD_some
abbrev NZ:=@List.length_eraseIdx_le
abbrev N0:=@List.flatMap_cons
abbrev N1:=@wpAny_done
abbrev N2:=@List.mem_cons_of_mem
abbrev N3:=@List.map_nil
abbrev N4:=@List.findIdx?_eq_some_iff_getElem
abbrev N5:=@List.countP_cons
abbrev N6:=@List.size_toArray
abbrev N7:=@Int.eq_ofNat_of_zero_le
abbrev N8:=@callsIn_wide
abbrev N9:=@List.pairwise_cons
abbrev Oa:=@Int.le_trans
abbrev Ob:=@List.drop_eq_getElem_cons
abbrev Oc:=@Bool.not_eq_true'
abbrev Od:=@UInt8.toNat_ofNat'
abbrev Oe:=@decide_eq_false_iff_not
abbrev Og:=@Nat.mul_le_mul_right
abbrev Oh:=@List.mem_append_left
abbrev Oi:=@List.isEmpty_iff
abbrev Oj:=@List.getElem?_set_ne
abbrev Ok:=@List.all_eq_true
abbrev Ol:=@below_drewN
abbrev Om:=@List.filter_eq_self
abbrev On:=@Array.length_toList
abbrev Oo:=@Option.map_some
abbrev Oq:=@List.getElem?_append_left
abbrev Ot:=@List.getElem?_eq_none
abbrev Ou:=@List.mem_flatMap
abbrev Ov:=@List.filter_append
abbrev Ow:=@Nat.lt_or_ge
abbrev Ox:=@congrArg
abbrev Oy:=@Array.replicate_zero
abbrev Oz:=@Array.replicate_succ
abbrev OA:=@List.filter_congr
abbrev OB:=@Nat.min_eq_left
abbrev OC:=@List.length_set
abbrev OD:=@List.append_nil
abbrev OE:=@List.append_toArray
abbrev OF:=@wpList_plain
abbrev OG:=@if_true
abbrev OH:=@List.length_filter_le
abbrev OI:=@List.findIdx?_eq_none_iff
abbrev OJ:=@Nat.add_zero
abbrev OK:=@List.push_toArray
abbrev OL:=@List.ext_getElem?
abbrev OM:=@List.any_eq_false
abbrev ON:=@Bool.eq_false_iff
abbrev OO:=@List.mem_of_mem_eraseIdx
abbrev OP:=@wpList_append_own
abbrev OQ:=@List.getD_cons_zero
abbrev OR:=@List.getD_cons_succ
abbrev OS:=@beq_self_eq_true
abbrev OT:=@List.Nodup.length_le_of_subset
abbrev OU:=@List.take_append_of_le_length
abbrev OV:=@wp_loop_rounds
abbrev OW:=@size_zeroCells
abbrev OX:=@decide_eq_true_iff
abbrev OY:=@Nat.mul_comm
abbrev OZ:=@List.nodup_cons
abbrev O0:=@List.foldl_cons
abbrev O1:=@setRow_heap
abbrev O2:=@List.length_singleton
abbrev O3:=@Int.toNat_natCast
abbrev O4:=@Oper.semAt_some
abbrev O5:=@Array.toList_push
abbrev O6:=@Nat.add_mul
abbrev O7:=@List.pairwise_append
abbrev O8:=@List.mem_range
abbrev O9:=@List.getElem?_append_right
abbrev Pb:=@Result.andThen_ok
abbrev Pc:=@List.map_toArray
abbrev Pd:=@List.map_set
abbrev Pe:=@List.mem_of_find?_eq_some
abbrev Pf:=@run_getObj_map
abbrev Pg:=@List.map_congr_left
abbrev Ph:=@List.countP_eq_zero
abbrev Pj:=@Array.setIfInBounds_comm
abbrev Pk:=@Bool.eq_iff_iff
theorem qL {α:Type}{a:Array α}{i:Nat}{x:α}(h:a[i]?=some x):i<a.size:=(MH.1 h).1
theorem qM {α:Type}{a:List α}{i:Nat}{x:α}(h:a[i]?=some x):i<a.length:=(MN.1 h).1
theorem qJ {n:Nat}{a b c:World}(h:Hid (Below n a b))(k:Below b.1.size b c)(hn:n<=a.1.size:=by exact MI _):Hid (Below n a c):=Below.trans h (k.mono (MS hn h.size))
theorem qK {a b:World}{i:Nat}{x:Obj}(k:Below a.1.size a b)(h:Hid (a.1[i]?=some x)):Hid (b.1[i]?=some x):=(k.block _ (qL h)).trans h
theorem qX {α:Type}(l:List α)(i)(a:α):l.toArray.setIfInBounds i a=(l.set i a).toArray:=by simp
theorem qY {α:Type}(x:α)(l:List α)(a:α):(x::l).set 0 a=a::l:=rfl
theorem qZ {α:Type}(x:α)(l:List α)(n)(a:α):(x::l).set (n+1) a=x::l.set n a:=rfl
theorem qW {P:Program}{md:Region.Mode}{ops:Array Oper}{Q:Exit->Act->World->Prop}{i:Nat}{oi:Oper}{v:Value}{n:Nat}{l:Array Bool}{a:Act}{w:World}(hi:ops[i]?=some oi)(hy:Yields P ops oi v a)(h:wpAny P md ops Q n (l.setIfInBounds i true) (a.put oi.dst v) w)(hb:(Region.noSelect ops&&(Region.free md ops l i&&(Region.ready md ops l).contains i))=true:=by kernel_rfl)(hQ:∀ c a w,Q (.panic c) (a.put oi.dst v) w->Q (.panic c) a w:=by exact λ_ _ _ h=>h):wpAny P md ops Q (n+1) l a w:=by
 simp only[Bool.and_eq_true]at hb;exact wpAny_take hi hb.1 hb.2.1 hb.2.2 hQ hy h
theorem qV {P : Program}{md : Region.Mode}{ops : Array Oper}{Q : Exit → Act → World → Prop}{i : Nat}{oi : Oper}{v : Value}{n : Nat}{l : Array Bool}{a : Act}{w : World}(hi : ops[i]?=some oi)(h : wpAny P md ops Q n (l.setIfInBounds i true) (a.put oi.dst v) w)(hy : Yields P ops oi v a := by exact Or.inl ⟨by rfl, λw => by go_simp;try with_reducible rfl⟩)(hb : (Region.noSelect ops&&(Region.free md ops l i&&(Region.ready md ops l).contains i))=true := by kernel_rfl)(hQ : ∀ c a w, Q (.panic c) (a.put oi.dst v) w → Q (.panic c) a w := by exact λ_ _ _ h => h) : wpAny P md ops Q (n+1) l a w := qW hi hy h hb hQ
theorem qE {α : Type}(a : α) : ∃ n, a=n := ⟨a,rfl⟩
theorem qF {α : Type}(a : α) : ∃ n, n=a := ⟨a,rfl⟩
theorem qB {w W : World}{o : Obj}(h : W=w.alloc o) : Below w.1.size w W := by rw[h];exact (MJ _ w).alloc (MI _) _
theorem qC {w W : World}{o : Obj}(h : W=w.alloc o) : W.1[w.1.size]?=some o := by rw[h];exact MD _ _
theorem qG (w )(o ) : Below w.1.size w (w.alloc o) := (MJ _ w).alloc (MI _) _
theorem qS : (∀ (a : Act) (d : Tmp) (v : Value), a.put (some d) v = { a with tmps := a.tmps.setIfInBounds d v }) ∧ (∀ (a : Act) (v : Value), a.put none v=a) ∧ (∀ {α : Type} (l : List α) (i : Nat) (a : α), l.toArray.setIfInBounds i a=(l.set i a).toArray) ∧ (∀ {α : Type} (x : α) (l : List α) (a : α), (x::l).set 0 a=a::l) ∧ (∀ {α : Type} (x : α) (l : List α) (n : Nat) (a : α), (x::l).set (n+1) a=x::l.set n a) := ⟨λ_ _ _ => rfl,λ_ _ => rfl,qX,qY,qZ⟩
theorem qk {P:Prop}(h:P:=by kernel_rfl):P:=h
theorem qo {P:Prop}(h:P:=by omega):P:=h
theorem qs {P:Prop}(h:P:=by simp):P:=h
theorem qt {P:Prop}(h:P:=by simp;omega):P:=h
theorem qd {P:Prop}(h:P:=by decide):P:=h
theorem qa {P:Prop}(h:P:=by assumption):P:=h
theorem qn {n:Nat}:n<=n:=MI _
theorem hH {P:Prop}(h:P):Hid P:=h
abbrev Bw (w w' : World) : Prop := Below w.1.size w w'
end
section
open RowKit (wrap64)
namespace At
def dN (k l s t:Int):Prop:=(k=0/\l=0/\s=0/\t=0)\/((0<=s/\s<=1048576)/\(0<=t/\t<=1099511627776)/\((k=1/\0<=l/\l<=64)\/(k=2/\l=1)))
instance (k l s t:Int):Decidable (dN k l s t):=by unfold dN;infer_instance
def right (k l s t:Int):Bool:=decide (dN k l s t)
theorem cG {k l s t:Int}:right k l s t=true ↔ dN k l s t:=by simp[right]
theorem iy {k l s t:Int}:right k l s t=false ↔ ¬ dN k l s t:=by simp[right]
end At
namespace Bl
abbrev R:=Int × ByteArray
def d0:R:=(0,⟨#[]⟩)
def jA (l:List UInt8):ByteArray:=⟨l.toArray⟩
def bs (r:R):List UInt8:=r.2.data.toList
def ee (r:R):Int:=r.1+r.2.size
abbrev Cv:Int:=1048576
def right (last:Int):List R->Prop
 | []=>True
 | r::l=>(r.2.size≠0/\last<r.1/\r.1+r.2.size<=Cv)/\right (ee r) l
instance rD:∀ (last:Int) (l:List R),Decidable (right last l)
 | _,[]=>.isTrue trivial
 | _,r::l=>@instDecidableAnd _ _ inferInstance (rD (ee r) l)
def dE (a:Int):List R->Int
 | []=>a
 | r::l=>dE (ee r) l
theorem eI (l m):∀ a,dE a (l++m)=dE (dE a l) m:=by
 induction l with
 | nil=>intro a;rfl
 | cons r l ih=>intro a;exact ih _
theorem fG (l m):∀ a,right a (l++m) ↔ right a l/\right (dE a l) m:=by
 induction l with
 | nil=>intro a;simp[right,dE]
 | cons r l ih =>
  intro a;have h:=ih (ee r);show (_/\right (ee r) (l++m)) ↔ (_/\right (ee r) l)/\right (dE (ee r) l) m;rw[h];exact (and_assoc (a:=_/\_/\_)).symm
theorem lP {l:List R}:∀ {a:Int},right a l->a<=dE a l:=by
 induction l with
 | nil=>intro a _;exact Ng _
 | cons r l ih =>
  intro a h;have:=ih h.2;have b:=h.1;show a<=dE (ee r) l;unfold ee at *;omega
theorem jk {l:List R}:∀ {a:Int},right a l->∀ r∈l,r.2.size≠0/\a<r.1/\ee r<=Cv:=by
 induction l with
 | nil=>intro a _ r b;cases b
 | cons s l ih =>
  intro a h r b;rcases Ni.1 b with rfl | b
  ·exact⟨h.1.1,h.1.2.1,h.1.2.2⟩
  ·have := ih h.2 r b
   have c:=h.1;unfold ee at *;exact⟨this.1,qo,this.2.2⟩
theorem fP (l:List R):l=[]\/∃ m s,l=m++[s]:=by
 rcases List.eq_nil_or_concat l with h | ⟨m,s,h⟩
 ·exact .inl h
 ·exact .inr ⟨m,s,by simpa using h⟩
def fA (l:List R):Int:=if right (-1) l then dE 0 l else 0
theorem pD {l:List R}(h:l≠[])(a b):dE a l=dE b l:=by
 cases l with
 | nil=>exact absurd rfl h
 | cons r l=>rfl
def ml (l:List R):Int:=l.foldl (λy r=>wrap64 (y+(r.2.size:Int))) 0
theorem B1 (l:List R){k:Nat} (hk:k<l.length) {x:R} (hx:l.getD k (0,.empty)=x):l.take (k+1)=l.take k++[x]:=by
 rw[NF,MF hk];simp[List.getD,List.getElem?_eq_getElem hk]at hx;simp[hx]
theorem D9 {l:List R}{k:Nat}(hk:k<l.length) {x:R} (hx:l.getD k (0,.empty)=x):ml (l.take (k+1))=wrap64 (ml (l.take k)+(x.2.size:Int)):=by
 rw[B1 l hk hx];unfold ml;rw[List.foldl_append];rfl
end Bl
def dQ (l:List (Int × ByteArray)):Prop:=∀ x∈l,(-9223372036854775808<=x.1/\x.1<=9223372036854775807)/\x.2.size<=maxLen
theorem dQ.at {l:List (Int × ByteArray)}(h:dQ l){i:Nat}(hi:i<l.length):(-9223372036854775808<=(l.getD i (0,.empty)).1/\(l.getD i (0,.empty)).1<=9223372036854775807)/\(l.getD i (0,.empty)).2.size<=maxLen:=by
 have:l.getD i (0,.empty)∈l:=by simp[List.getD,hi]
 exact h _ this
def Bl.err (l:List Bl.R):Int:=if Bl.right (-1) l then 0 else 80
theorem Bl.take_succ (l:List Bl.R){k:Nat} (hk:k<l.length) {x:Bl.R} (hx:l.getD k (0,.empty)=x):l.take (k+1)=l.take k++[x]:=by
 rw[Np hk,<-hx];simp[List.getD,hk]
theorem Bl.gH {l:List Bl.R}{k:Nat}(hk:k<l.length) {x:Bl.R} (hx:l.getD k (0,.empty)=x):Bl.right (-1) (l.take (k+1)) ↔ Bl.right (-1) (l.take k)/\(x.2.size≠0/\Bl.dE (-1) (l.take k)<x.1/\x.1+x.2.size<=1048576):=by
 rw[Bl.take_succ l hk hx,Bl.fG];exact⟨λ⟨a,b,_⟩=>⟨a,b⟩,λ⟨a,b⟩=>⟨a,b,trivial⟩⟩
theorem Bl.po {l:List Bl.R}{a:Int}(h:Bl.right a l)(k):Bl.right a (l.take k):=by
 rw[<-Nj k l,Bl.fG]at h;exact h.1
theorem Bl.mz {l:List Bl.R}{k:Nat}(hk:k<l.length){x:Bl.R}(hx:l.getD k (0,.empty)=x)(h:¬ (x.2.size≠0/\Bl.dE (-1) (l.take k)<x.1/\x.1+x.2.size<=1048576)):Bl.err l=80:=by
 unfold Bl.err;rw[ME];intro a;exact h ((Bl.gH hk hx).1 (Bl.po a (k+1))).2
theorem Bl.ju {l:List Bl.R}{k:Nat}(hk:k<l.length) {x:Bl.R} (hx:l.getD k (0,.empty)=x):Bl.dE (-1) (l.take (k+1))=x.1+x.2.size:=by
 rw[Bl.take_succ l hk hx,Bl.eI];rfl
theorem Bl.px {l:List Bl.R} (h:Bl.right (-1) l):-1<=Bl.dE (-1) l/\Bl.dE (-1) l<=1048576:=by
 refine⟨Bl.lP h,?_⟩;rcases Bl.fP l with rfl | ⟨m,s,rfl⟩
 ·decide
 ·rw[Bl.eI]
  exact (Bl.jk h s (by simp)).2.2
end
section
open RowKit
theorem jb (w:World)(row:Option Nat):w.grownBy w row:=⟨rfl,rfl,rfl,qn,λ_ _ _=>rfl⟩
theorem cQ {a b c:World}{row:Option Nat}(h:a.grownBy b row)(k:b.grownBy c row):a.grownBy c row :=
 ⟨k.os.trans h.os,k.tape.trans h.tape,k.output.trans h.output,MS h.size k.size,λi d f=>(k.block i (M6 d h.size) f).trans (h.block i d f)⟩
theorem cP {w w':World}(h:Below w.1.size w w')(row:Option Nat):w.grownBy w' row:=⟨h.os,h.tape,h.output,h.size,λk a _=>h.block k a⟩
theorem dR {B:Nat}{w w':World}(h:w.grownBy w' none)(hs:B<=w.1.size):Below B w w':=(MJ B w).grown h hs (λk a=>by cases a)
structure fY (α:Type) where
 sz:Nat
 cells:α->List Value
 len:∀ x,(cells x).length=sz
 one:∀ x,∀ u∈cells x,u.oneCell'=true
variable {α:Type}
def fY.flat (E:fY α) (l:List α):List Value:=l.flatMap E.cells
theorem fY.eh (E:fY α)(l:List α):(E.flat l).length=l.length*E.sz:=by
 induction l with
 | nil=>simp[fY.flat]
 | cons x l ih =>
  have e:E.flat (x::l)=E.cells x++E.flat l:=by simp[fY.flat]
  rw[e,MW,ih,E.len,MZ,Nat.succ_mul];omega
theorem fY.fo (E:fY α)(l m:List α):E.flat (l++m)=E.flat l++E.flat m:=by simp[fY.flat]
theorem fY.As (E:fY α)(l:List α):∀ u∈E.flat l,u.oneCell'=true:=λu b=>by
 obtain⟨x,_,a⟩:=Ou.1 b;exact E.one x u a
theorem fY.lD (E:fY α):∀ (l:List α) (i:Nat) (x:α),l[i]?=some x->∀ k u,(E.cells x)[k]?=some u->(E.flat l)[i*E.sz+k]?=some u
 | [],i,x,h,_,_,_=>by simp at h
 | y::l,0,x,h,k,u,hu=>by
  simp at h;subst h;have e:E.flat (y::l)=E.cells y++E.flat l:=by simp[fY.flat]
  rw[e,Nat.zero_mul,NS,Oq (qM hu)];exact hu
 | y::l,i+1,x,h,k,u,hu=>by
  have e:E.flat (y::l)=E.cells y++E.flat l:=by simp[fY.flat]
  have:=E.lD l i x (by simpa using h) k u hu;rw[e,Nat.succ_mul,O9 (by rw[E.len];omega),E.len,show i*E.sz+E.sz+k-E.sz=i*E.sz+k from by omega];exact this
theorem fY.pT (E:fY α):∀ (l:List α) (i:Nat) (x:α),i<l.length->(E.flat l).take (i*E.sz)++E.cells x++(E.flat l).drop (i*E.sz+E.sz)=E.flat (l.set i x)
 | [],i,x,h=>by simp at h
 | y::l,0,x,h=>by
  have e:∀ z,E.flat (z::l)=E.cells z++E.flat l:=λz=>by simp[fY.flat]
  rw[List.set_cons_zero,e,e,Nat.zero_mul,List.take_zero,NS,Nt]
  congr 1
  rw[List.drop_append_of_le_length (by rw[E.len];omega),List.drop_of_length_le (by rw[E.len];omega)];rfl
 | y::l,i+1,x,h => by
  have e:∀ (z:α) m,E.flat (z::m)=E.cells z++E.flat m:=λz m=>by simp[fY.flat]
  have ih:=E.pT l i x (by simpa using h);have hl:=E.len y;rw[List.set_cons_succ,e,e,<-ih,Nat.succ_mul];have h1:(E.cells y++E.flat l).take (i*E.sz+E.sz)=E.cells y++(E.flat l).take (i*E.sz):=by
   rw[List.take_append,MY qo,hl,show i*E.sz+E.sz-E.sz=i*E.sz from by omega]
  have a:(E.cells y++E.flat l).drop (i*E.sz+E.sz+E.sz)=(E.flat l).drop (i*E.sz+E.sz):=by
   rw[List.drop_append,List.drop_of_length_le qo,hl,show i*E.sz+E.sz+E.sz-E.sz=i*E.sz+E.sz from by omega,Nt]
  rw[h1,a,Nq,Nq,Nq]
def At (E:fY α) (S:Nat->Prop) (w:World) (v:Value) (l:List α):Prop :=
 (∃ ao cap,v=.slice ao 0 cap/\l=[]) \/
 (∃ b off cap,v=.slice (some ⟨b,off,none⟩) l.length cap/\S b/\b<w.1.size/\0<l.length/\l.length<=cap/\cap<=maxLen /\
  ∀ j u,(E.flat l)[j]?=some u->w.cell? ⟨b,off+j,none⟩=some u)
theorem dJ {w w':World}{p:Addr}(h:w'.1[p.block]?=w.1[p.block]?):w'.cell? p=w.cell? p:=by
 unfold World.cell?;rw[h]
theorem At.gJ {E:fY α}{S T:Nat->Prop}{w w':World}{v:Value}{l:List α}(h:At E S w v l)(hs:w.1.size<=w'.1.size)(hk:∀ b,S b->b<w.1.size->w'.1[b]?=w.1[b]?/\T b):At E T w' v l:=by
 rcases h with h | ⟨b,a,c,rfl,d,f,g,i,k,m⟩
 ·exact .inl h
 ·have:=hk b d f;exact .inr ⟨b,a,c,rfl,this.2,qo,g,i,k,λj u n=>(dJ this.1).trans (m j u n)⟩
theorem At.imp {E:fY α}{S T:Nat->Prop}{w:World}{v:Value}{l:List α}(h:At E S w v l)(hk:∀ b,S b->b<w.1.size->T b):At E T w v l:=h.gJ qn λb a c=>⟨rfl,hk b a c⟩
abbrev ey (E:fY α) (w:World) (v:Value) (l:List α):Prop:=At E (λ_=>True) w v l
theorem At.wide {E:fY α}{S:Nat->Prop}{w:World}{v:Value}{l:List α}(h:At E S w v l):ey E w v l:=h.imp λ_ _ _=>trivial
theorem At.up {E:fY α}{S:Nat->Prop}{w w':World}{v:Value}{l:List α}(h:At E S w v l)(hb:Below w.1.size w w'):At E S w' v l:=h.gJ hb.size λb a c=>⟨hb.block b c,a⟩
theorem At.grown {E:fY α}{S:Nat->Prop}{w w':World}{v:Value}{l:List α}{row:Option Nat}(h:At E S w v l)(hg:w.grownBy w' row)(hr:∀ g,row=some g->¬ S g):At E S w' v l:=h.gJ hg.size λb a c =>
 ⟨hg.block b c (λe=>hr b e.symm a),a⟩
theorem At.open {E:fY α}{S:Nat->Prop}{w:World}{v:Value}{l:List α}(h:At E S w v l):∃ ao cap,v=.slice ao l.length cap/\l.length<=maxLen /\
  ∀ i x,l[i]?=some x->∃ b off,ao=some ⟨b,off,none⟩/\S b/\b<w.1.size/\∀ k u,(E.cells x)[k]?=some u->w.cell? ⟨b,off+(i*E.sz+k),none⟩=some u:=by
 rcases h with⟨ao,cap,rfl,rfl⟩ | ⟨b,off,cap,rfl,a,c,_,n,o,d⟩
 ·exact⟨ao,cap,rfl,qs,λj x f=>by simp at f⟩
 ·exact⟨_,cap,rfl,qo,λi x g=>⟨b,off,rfl,a,c,λk u m=>d _ _ (E.lD l i x g k u m)⟩⟩
theorem At.src {E:fY α}{S:Nat->Prop}{P:Program}{w:World}{v:Value}{l:List α}{t e:TypeId}(hk:P.underlying t=some (.slice e))(h:At E S w v l):Src P E.sz t v l.length (E.flat l) w:=by
 rcases h with⟨f,c,rfl,rfl⟩ | ⟨b,g,c,rfl,n,i,_,o,p,k⟩
 ·cases f with
  | none=>exact Src.ofNil w hk c
  | some a=>exact Src.ofSlice w hk a 0 c [] qs (λj u d=>by simp at d) (λu m=>by cases m)
 ·exact Src.ofSlice w hk _ _ c _ (E.eh l) (λj u d=>by rw[Nu];exact k j u d) (E.As l)
theorem At.nil {E:fY α}{S:Nat->Prop}{w:World}:At E S w (.slice none 0 0) []:=.inl ⟨_,_,rfl,rfl⟩
def Row (E:fY α) (w:World) (B:Nat) (e:TypeId) (v:Value) (ls:List α):Prop :=
 (v=.slice none 0 0/\ls=[]) \/
 ∃ g cap cur,v=.slice (some ⟨g,0,none⟩) ls.length cap/\B<=g/\w.1[g]?=some (.cells cur e (0,0))/\ls.length<=cap/\cap<=maxLen/\cap*E.sz<=cur.size/\cur.toList.take (ls.length*E.sz)=E.flat ls
theorem Row.nil (E:fY α)(w)(B)(e:TypeId):Row E w B e (.slice none 0 0) []:=.inl ⟨rfl,rfl⟩
theorem Row.slice {E:fY α}{w:World}{B:Nat}{e:TypeId}{v:Value}{ls:List α}(h:Row E w B e v ls):∃ p c,v=.slice p ls.length c:=by
 rcases h with⟨rfl,rfl⟩ | ⟨g,a,b,rfl,_⟩
 ·exact⟨_,_,rfl⟩
 ·exact⟨_,_,rfl⟩
theorem Row.lt {E:fY α}{w:World}{B:Nat}{e:TypeId}{v:Value}{ls:List α}(h:Row E w B e v ls):∀ k,v.ownBlock=some k->B<=k/\k<w.1.size:=by
 rcases h with⟨rfl,rfl⟩ | ⟨g,b,c,rfl,d,f,_⟩
 ·intro k a;simp[Value.ownBlock]at a
 ·intro k a;simp[Value.ownBlock]at a;subst a;exact⟨d,(qL f)⟩
theorem Row.kept {E:fY α}{w w':World}{B:Nat}{e:TypeId}{v:Value}{ls:List α}{row:Option Nat}(h:Row E w B e v ls)(hg:w.grownBy w' row)(hne:v.ownBlock=none\/v.ownBlock≠row):Row E w' B e v ls:=by
 rcases h with h | ⟨g,a,b,rfl,d,c,f,i,j,k⟩
 ·exact .inl h
 ·refine .inr ⟨g,a,b,rfl,d,?_,f,i,j,k⟩;rw[hg.block g (qL c) ?_,c];rcases hne with hne | hne
  ·simp[Value.ownBlock]at hne
  ·simpa [Value.ownBlock]using hne
theorem Row.still {E:fY α}{w w':World}{B:Nat}{e:TypeId}{v:Value}{ls:List α}(h:Row E w B e v ls)(hg:w.grownBy w' none):Row E w' B e v ls:=h.kept hg (by cases hv:v.ownBlock <;> simp)
theorem Row.up {E:fY α}{w w':World}{B:Nat}{e:TypeId}{v:Value}{ls:List α}(h:Row E w B e v ls)(hb:Bw w w'):Row E w' B e v ls:=h.still (cP hb none)
theorem Row.at {E:fY α}{w:World}{B:Nat}{e:TypeId}{v:Value}{ls:List α}(h:Row E w B e v ls):At E (λb=>B<=b) w v ls:=by
 rcases h with⟨rfl,rfl⟩ | ⟨g,c,i,rfl,k,f,l,m,o,n⟩
 ·exact .inl ⟨_,_,rfl,rfl⟩
 ·by_cases hp:0<ls.length
  ·refine .inr ⟨g,0,c,rfl,k,(qL f),hp,l,m,λj u d=>?_⟩;have a:=(qM d);rw[E.eh]at a;rw[<-n,List.getElem?_take_of_lt a,Nw]at d;simp only[World.cell?,f,Option.isSome_none,Bool.false_eq_true,if_false,Nat.zero_add];exact d
  ·have:ls=[]:=MX (by omega);subst this;exact .inl ⟨_,_,rfl,rfl⟩
section
variable {P:Program} (w:World)
theorem Row.B5 (E:fY α)(S)(B)(t ty e:TypeId)(i:TypeInfo)(z:Value)(bytes:Nat)(ht:P.underlying t=some (.slice e))(hi:P.info? e=some i)(hz:i.zero=some z)(hsize:i.size=E.sz)(hby:i.bytes=bytes)(hzs:z.cells.size=E.sz)(v:Value)(ls:List α)(hrow:Row E w B e v ls)(x:Value)(xs:List α)(hx:At E S w x xs)(h63:ls.length+xs.length<=maxLen)(ek:(ls.length+xs.length+(ls.length+xs.length) / 4+192)*bytes<=281474976710656)(hbase:B<=w.1.size) :
  ∃ v' w',(Builtin.append_ #[t,t] ty #[v,x]).run P w=.ok v' w'/\Row E w' B e v' (ls++xs)/\w.grownBy w' v.ownBlock/\(v'.ownBlock=v.ownBlock\/∀ j,v'.ownBlock=some j->w.1.size<=j):=by
 have n:Src P i.size t x xs.length (E.flat xs) w:=by rw[hsize];exact hx.src ht
 have J:=E.eh xs;have m:=E.eh ls;have T:(E.flat (ls++xs)).length=(ls.length+xs.length)*E.sz:=by rw[E.eh];simp
 have K:ls.length+xs.length<=9223372036854775807:=by simp only[maxLen]at h63;omega
 have p:(ls.length+xs.length)*E.sz=ls.length*E.sz+xs.length*E.sz:=O6 _ _ _;subst hby;have l:∀ (d:Nat),d<ls.length+xs.length->∀ (I:Option Nat),
   Row E (w.drew.alloc (.cells ((E.flat ls++E.flat xs).toArray++Builtin.zeroCells z.cells (grownCap w (ls.length+xs.length) d e-(ls.length+xs.length))) e)) B e
    (.slice (some ⟨w.1.size,0,none⟩) (ls.length+xs.length) (grownCap w (ls.length+xs.length) d e)) (ls++xs) /\
   w.grownBy (w.drew.alloc (.cells ((E.flat ls++E.flat xs).toArray++Builtin.zeroCells z.cells (grownCap w (ls.length+xs.length) d e-(ls.length+xs.length))) e)) I:=by
  intro d ho I;have C:=grownCap_ge w (ls.length+xs.length) d e;have L:=grownCap_le_maxLen w (ls.length+xs.length) d e h63;refine⟨.inr ⟨w.1.size,_,_,qs,hbase,MD w.drew _,by simpa using C,L,?_,?_⟩,⟨rfl,rfl,rfl,qs,λk s _=>ML w.drew _ k s⟩⟩
  ·simp only[Array.size_append,List.size_toArray,List.length_append,size_zeroCells,hzs,J,m];generalize grownCap w (ls.length+xs.length) d e=G at C |-;rw[<-O6,<-O6];exact Og _ qo
  ·simp only[Array.toList_append];rw[E.fo,show (ls++xs).length*E.sz=(E.flat ls++E.flat xs).length from by simp only[List.length_append,J,m];exact p];exact List.take_left
 rcases hrow with⟨rfl,rfl⟩ | ⟨g,a,h,rfl,U,O,Y,V,Z,W⟩
 ·by_cases hm:xs.length=0
  ·have M:=MX hm;subst M;refine⟨.slice none 0 0,w,?_,Row.nil E w B e,jb _ _,.inl rfl⟩;rcases n.kind with⟨e',s⟩ | s
   ·have D:=n.len;have F:=n.cells;simp only[List.length_nil]at D F;simp[Builtin.append_,run_underlying ht,sizeOf,typeInfo,hi,D,F,fY.flat]
   ·rw[ht]at s;cases s
  ·have A:=run_append_grow_src (P:=P) w t t ty e i z ht hi hz none 0 0 [] (run_firstCells_none w.drew _ _ _ _) x xs.length (E.flat xs) n qo qo (growslice_fits_wide qo (by simpa using ek));have f:=l 0 (by simp;omega) (Value.ownBlock (.slice none 0 0));simp only[List.length_nil,Nat.zero_add,fY.flat,List.flatMap_nil,List.nil_append]at f A |-;exact⟨_,_,A,f.1,f.2,.inr (λj y=>by simp[Value.ownBlock]at y;omega)⟩
 ·by_cases hroom:ls.length+xs.length<=a
  ·have X:(ls.length+xs.length)*E.sz<=a*E.sz:=Og _ hroom;have H:0+ls.length*i.size+(E.flat xs).length<=h.size:=by rw[J,hsize];omega
   have q:=run_storeCells_at P g (0+ls.length*i.size) e (E.flat xs) 0 h w O (by simpa using H) n.one;simp only[Nat.add_zero]at q;have A:(Builtin.append_ #[t,t] ty #[.slice (some ⟨g,0,none⟩) ls.length a,x]).run P w=.ok (.slice (some ⟨g,0,none⟩) (ls.length+xs.length) a) (w.setRow g (h.toList.take (0+ls.length*i.size)++E.flat xs++h.toList.drop (0+ls.length*i.size+(E.flat xs).length)).toArray):=by
    simp only[Nat.zero_add]at q |-;simp[Builtin.append_,run_underlying ht,sizeOf,typeInfo,hi,n.len,hroom,n.cells,Addr.add_lit,q]
   refine⟨_,_,A,.inr ⟨g,a,_,qs,U,O1 w g h _ e _ O,by simpa using hroom,V,?_,?_⟩,⟨rfl,rfl,rfl,qs,λk _ s=>setRow_other w g k _ (λe=>s (by simp[Value.ownBlock,e]))⟩,.inl rfl⟩
   ·simp only[List.size_toArray,List.length_append,List.length_take,List.length_drop,Array.length_toList];omega
   ·rw[hsize,Nq,NS,W,E.fo,<-Nq,show (ls++xs).length*E.sz=(E.flat ls++E.flat xs).length from by simp only[List.length_append,J,m];exact p];exact List.take_left
  ·have N:=(show Row E w B e (.slice (some ⟨g,0,none⟩) ls.length a) ls from .inr ⟨g,a,h,rfl,U,O,Y,V,Z,W⟩).at;have r:∀ j u,(E.flat ls)[j]?=some u->w.cell? ((⟨g,0,none⟩:Addr).add j)=some u:=by
    rcases N with⟨ao,c,Q,h0⟩ | ⟨b,o,c,Q,_,_,_,_,_,R⟩
    ·subst h0;intro j u y;simp[fY.flat]at y
    ·simp only[Value.slice.injEq,Option.some.injEq,Addr.mk.injEq,and_true,true_and]at Q;obtain⟨⟨rfl,rfl⟩,rfl⟩:=Q;intro j u y;rw[Nu];exact R j u y
   have A:=run_append_grow_src (P:=P) w t t ty e i z ht hi hz (some ⟨g,0,none⟩) ls.length a (E.flat ls) (run_firstCells_some w.drew _ _ _ _ _ (E.flat ls) (by rw[hsize];exact m) (by simpa using r)) x xs.length (E.flat xs) n qo qo (growslice_fits_wide qo ek);have f:=l a qo (Value.ownBlock (.slice (some ⟨g,0,none⟩) ls.length a));exact⟨_,_,A,f.1,f.2,.inr (λj y=>by simp[Value.ownBlock]at y;omega)⟩
theorem eF {ops:Array Oper}{rest:List Oper}{o:Oper}{a:Act}{Q:Exit->Act->World->Prop}(hgd:o.guard=none)(s x:Operand)(t:TypeId)(ho:o.op=.call { callee:=.builtin .append,args:=#[s,x],argTypes:=#[t,t] })(E:fY α)(S)(B)(e:TypeId)(i:TypeInfo)(z)(bytes)(ht:P.underlying t=some (.slice e))(hi:P.info? e=some i)(hz:i.zero=some z)(hsize:i.size=E.sz)(hby:i.bytes=bytes)(hzs:z.cells.size=E.sz)(v)(ls:List α)(hv:a.eval s=v)(hrow:Row E w B e v ls)(xv)(xs:List α)(hxv:a.eval x=xv)(hx:At E S w xv xs)(h63:ls.length+xs.length<=maxLen)(ek:(ls.length+xs.length+(ls.length+xs.length) / 4+192)*bytes<=281474976710656)(hbase:B<=w.1.size)(h:∀ v' w',Row E w' B e v' (ls++xs)->w.grownBy w' v.ownBlock->(v'.ownBlock=v.ownBlock\/∀ j,v'.ownBlock=some j->w.1.size<=j)->wpList P ops Q rest (a.put o.dst v') w'):wpList P ops Q (o::rest) a w :=
 OF hgd λ_ g=>by
  obtain⟨v',w',b,c,d,f⟩:=Row.B5 (P:=P) w E S B t o.type e i z bytes ht hi hz hsize hby hzs v ls hrow xv xs hx h63 ek hbase;unfold Oper.wp execOp;simp only[ho,resolve,invoke,builtin,Sem.run_bind,Sem.run_pure,Result.andThen_ok,List.map_toArray,List.map_cons,List.map_nil,hv,hxv,b];exact g _ _ (h v' w' c d f)
end
end
section
open ChangeShapes WideShapes ChangeAt RowKit Deep
def cT (B:Nat) (w:World) (v:Value) (l:List (Int × ByteArray)):Prop :=
 (∃ ao cap,v=.slice ao 0 cap/\l=[]) \/
 (∃ b off cap,v=.slice (some ⟨b,off,none⟩) l.length cap/\b<B/\0<l.length/\l.length<=cap/\cap<=maxLen /\
  ∀ i,i<l.length->w.cell? ⟨b,off+i*2,none⟩=some (.int .i64 (l.getD i (0,.empty)).1)/\w.cell? ⟨b,off+i*2+1,none⟩=some (.string (l.getD i (0,.empty)).2))
theorem cT.below {B C:Nat}{w w':World}{v:Value}{l:List (Int × ByteArray)}(h:cT B w v l)(hb:Below C w w')(hC:B<=C):cT B w' v l:=by
 rcases h with h | ⟨b,a,c,d,f,g,j,k,m⟩
 ·exact .inl h
 ·refine .inr ⟨b,a,c,d,f,g,j,k,λi n=>?_⟩;rw[hb.cell (p:=⟨b,a+i*2,none⟩) (by show b<C;omega),hb.cell (p:=⟨b,a+i*2+1,none⟩) (by show b<C;omega)];exact m i n
theorem cT.mono {B C:Nat}{w:World}{v:Value}{l:List (Int × ByteArray)}(h:cT B w v l)(hC:B<=C):cT C w v l:=by
 rcases h with h | ⟨b,a,c,d,k,f,g,i,j⟩
 ·exact .inl h
 ·exact .inr ⟨b,a,c,d,qo,f,g,i,j⟩
theorem cT.open {B:Nat}{w:World}{v:Value}{l:List (Int × ByteArray)}(h:cT B w v l):∃ ao cap,v=.slice ao l.length cap/\l.length<=maxLen/\∀ j,j<l.length->∃ b off,ao=some ⟨b,off,none⟩/\b<B/\w.cell? ⟨b,off+j*2,none⟩=some (.int .i64 (l.getD j (0,.empty)).1)/\w.cell? ⟨b,off+j*2+1,none⟩=some (.string (l.getD j (0,.empty)).2):=by
 rcases h with⟨ao,cap,rfl,rfl⟩ | ⟨b,off,cap,rfl,a,_,f,g,d⟩
 ·exact⟨ao,cap,rfl,qs,λj c=>by simp at c⟩
 ·exact⟨_,cap,rfl,qo,λj c=>⟨b,off,rfl,a,d j c⟩⟩
def ER:fY (Int × ByteArray):=⟨2,λx=>[.int .i64 x.1,.string x.2],λ_=>rfl,λx u hu=>by
 simp at hu;rcases hu with rfl | rfl <;> rfl⟩
theorem At.fields {S:Nat->Prop}{w:World}{v:Value}{l:List (Int × ByteArray)}(h:At ER S w v l):cT w.1.size w v l:=by
 rcases h with h | ⟨b,c,d,rfl,_,k,m,n,o,f⟩
 ·exact .inl h
 ·refine .inr ⟨b,c,d,rfl,k,m,n,o,λi p=>?_⟩;have a:l[i]?=some (l.getD i (0,.empty)):=by simp[List.getD,p]
  have g:=f _ _ (ER.lD l i _ a 0 _ rfl);have j:=f _ _ (ER.lD l i _ a 1 _ rfl);exact⟨g,by rw[NC];exact j⟩
theorem cT.up {w w':World}{v:Value}{l:List Bl.R}(h:cT w.1.size w v l)(hb:Below w.1.size w w'):cT w'.1.size w' v l:=(h.below hb qn).mono hb.size
theorem laidOut:laidOutB Tryz.prog=true:=qk
theorem own:ownKnob Tryz.prog.godebug=none:=qk
abbrev BR (a:Int) (s:ByteArray):Obj:=.cells #[.int .i64 a,.string s] 114
theorem zT (a:Int)(s:ByteArray)(w:World)(h0:-9223372036854775808<=a) (h1:a+s.size<=9223372036854775807) :
  Calls Tryz.prog 174 #[.agg #[.int .i64 a,.string s]] w λe w'=>e=.returned (.int .i64 (a+s.size))/\w'=w.alloc (BR a s):=by
 go_enter Tryz.func174,Tryz.ntmps174;go_wp2;go_ret;exact⟨rfl,rfl⟩
abbrev BA (k l s t:Int):Obj:=.cells #[.int .i64 k,.int .i64 l,.int .i64 s,.int .i64 t] 59
abbrev VA (k l s t:Int):Value:=.agg #[.int .i64 k,.int .i64 l,.int .i64 s,.int .i64 t]
theorem jX (lo x hi)(w):Calls Tryz.prog 142 #[.int .i64 lo,.int .i64 x,.int .i64 hi] w λe w'=>e=.returned (.bool (decide (lo<=x/\x<=hi)))/\w'=w:=by
 by_cases h1:lo<=x
 ·by_cases h2:x<=hi
  ·rw[MT (show lo<=x/\x<=hi from⟨h1,h2⟩)];go_enter Tryz.func142,Tryz.ntmps142;go_wp2;go_ret;exact⟨rfl,rfl⟩
  ·rw[MO (show ¬ (lo<=x/\x<=hi) from λh=>h2 h.2)];go_enter Tryz.func142,Tryz.ntmps142;go_wp2;go_ret;exact⟨rfl,rfl⟩
 ·rw[MO (show ¬ (lo<=x/\x<=hi) from λh=>h1 h.1)];go_enter Tryz.func142,Tryz.ntmps142;go_wp2;go_ret;exact⟨rfl,rfl⟩
theorem di (lo x hi)(w)(h:lo<=x/\x<=hi):Calls Tryz.prog 142 #[.int .i64 lo,.int .i64 x,.int .i64 hi] w λe w'=>e=.returned (.bool true)/\w'=w:=by
 have:=jX lo x hi w
 rwa [MT h]at this
theorem eZ (lo x hi)(w)(h:¬ (lo<=x/\x<=hi)):Calls Tryz.prog 142 #[.int .i64 lo,.int .i64 x,.int .i64 hi] w λe w'=>e=.returned (.bool false)/\w'=w:=by
 have:=jX lo x hi w
 rwa [MO h]at this
theorem dF (k l s t)(w)(h:At.right k l s t=true):Calls Tryz.prog 93 #[VA k l s t] w λe w'=>e=.returned (.int .i64 0)/\w'=w.alloc (BA k l s t):=by
 rcases At.cG.1 h with⟨rfl,rfl,rfl,rfl⟩ | ⟨b,c,⟨rfl,d⟩ | ⟨rfl,rfl⟩⟩
 ·clear h;go_enter Tryz.func93,Tryz.ntmps93;go_wp2;go_ret;exact⟨rfl,rfl⟩
 ·have a:Hid ((0<=l/\l<=64)/\(0<=s/\s<=1048576)/\(0<=t/\t<=1099511627776)):=⟨d,b,c⟩;clear h d b c;go_enter Tryz.func93,Tryz.ntmps93;go_wp2_with fail;refine (di _ _ _ _ a.out.1).mono ?_;rintro e w' ⟨rfl,rfl⟩;go_wp2_with fail;refine (di _ _ _ _ a.out.2.1).mono ?_;rintro e w' ⟨rfl,rfl⟩;go_wp2_with fail;refine (di _ _ _ _ a.out.2.2).mono ?_;rintro e w' ⟨rfl,rfl⟩;go_wp2;go_ret;exact⟨rfl,rfl⟩
 ·have a:Hid ((0<=s/\s<=1048576)/\(0<=t/\t<=1099511627776)):=⟨b,c⟩;clear h b c;go_enter Tryz.func93,Tryz.ntmps93;go_wp2_with fail;refine (di _ _ _ _ qd).mono ?_;rintro e w' ⟨rfl,rfl⟩;go_wp2_with fail;refine (di _ _ _ _ a.out.1).mono ?_;rintro e w' ⟨rfl,rfl⟩;go_wp2_with fail;refine (di _ _ _ _ a.out.2).mono ?_;rintro e w' ⟨rfl,rfl⟩;go_wp2;go_ret;exact⟨rfl,rfl⟩
theorem nw (l s t)(w)(h:¬ ((0<=l/\l<=64)/\(0<=s/\s<=1048576)/\(0<=t/\t<=1099511627776))):Calls Tryz.prog 93 #[VA 1 l s t] w λe w'=>e=.returned (.int .i64 70)/\w'=w.alloc (BA 1 l s t):=by
 by_cases h1:0<=l/\l<=64
 ·by_cases h2:0<=s/\s<=1048576
  ·have a:Hid ((0<=l/\l<=64)/\(0<=s/\s<=1048576)/\¬ (0<=t/\t<=1099511627776)):=⟨h1,h2,λb=>h ⟨h1,h2,b⟩⟩;clear h1 h2 h;go_enter Tryz.func93,Tryz.ntmps93;go_wp2_with fail;refine (di _ _ _ _ a.out.1).mono ?_;rintro e w' ⟨rfl,rfl⟩;go_wp2_with fail;refine (di _ _ _ _ a.out.2.1).mono ?_;rintro e w' ⟨rfl,rfl⟩;go_wp2_with fail;refine (eZ _ _ _ _ a.out.2.2).mono ?_;rintro e w' ⟨rfl,rfl⟩;go_wp2;go_ret;exact⟨rfl,rfl⟩
  ·have a:Hid ((0<=l/\l<=64)/\¬ (0<=s/\s<=1048576)):=⟨h1,h2⟩;clear h1 h2 h;go_enter Tryz.func93,Tryz.ntmps93;go_wp2_with fail;refine (di _ _ _ _ a.out.1).mono ?_;rintro e w' ⟨rfl,rfl⟩;go_wp2_with fail;refine (eZ _ _ _ _ a.out.2).mono ?_;rintro e w' ⟨rfl,rfl⟩;go_wp2;go_ret;exact⟨rfl,rfl⟩
 ·have a:Hid _:=h1;clear h1 h;go_enter Tryz.func93,Tryz.ntmps93;go_wp2_with fail;refine (eZ _ _ _ _ a).mono ?_;rintro e w' ⟨rfl,rfl⟩;go_wp2;go_ret;exact⟨rfl,rfl⟩
theorem ph (s t)(w)(h:¬ ((0<=s/\s<=1048576)/\(0<=t/\t<=1099511627776))):Calls Tryz.prog 93 #[VA 2 1 s t] w λe w'=>e=.returned (.int .i64 70)/\w'=w.alloc (BA 2 1 s t):=by
 by_cases h2:0<=s/\s<=1048576
 ·have a:Hid ((0<=s/\s<=1048576)/\¬ (0<=t/\t<=1099511627776)):=⟨h2,λb=>h ⟨h2,b⟩⟩;clear h2 h;go_enter Tryz.func93,Tryz.ntmps93;go_wp2_with fail;refine (di _ _ _ _ qd).mono ?_;rintro e w' ⟨rfl,rfl⟩;go_wp2_with fail;refine (di _ _ _ _ a.out.1).mono ?_;rintro e w' ⟨rfl,rfl⟩;go_wp2_with fail;refine (eZ _ _ _ _ a.out.2).mono ?_;rintro e w' ⟨rfl,rfl⟩;go_wp2;go_ret;exact⟨rfl,rfl⟩
 ·have a:Hid _:=h2;clear h2 h;go_enter Tryz.func93,Tryz.ntmps93;go_wp2_with fail;refine (di _ _ _ _ qd).mono ?_;rintro e w' ⟨rfl,rfl⟩;go_wp2_with fail;refine (eZ _ _ _ _ a).mono ?_;rintro e w' ⟨rfl,rfl⟩;go_wp2;go_ret;exact⟨rfl,rfl⟩
theorem jQ (k l s t)(w)(h:At.right k l s t=false):Calls Tryz.prog 93 #[VA k l s t] w λe w'=>e=.returned (.int .i64 70)/\w'=w.alloc (BA k l s t):=by
 have a:=At.iy.1 h;clear h;unfold At.dN at a
 by_cases k1:k=1
 ·subst k1;exact nw l s t w (λh=>a (.inr ⟨h.2.1,h.2.2,.inl ⟨rfl,h.1⟩⟩))
 by_cases k2:k=2
 ·by_cases l1:l=1
  ·subst k2;subst l1;exact ph s t w (λh=>a (.inr ⟨h.1,h.2,.inr ⟨rfl,rfl⟩⟩))
  ·subst k2;clear a;go_enter Tryz.func93,Tryz.ntmps93;go_wp2;go_ret;exact⟨rfl,rfl⟩
 by_cases k0:k=0
 ·subst k0;have b:((l==0)&&((s==0)&&(t==0)))=false:=by
   rw[ON];intro h;simp at h;exact a (.inl ⟨rfl,h.1,h.2.1,h.2.2⟩)
  by_cases l0:l=0
  ·by_cases s0:s=0
   ·have c:¬ t=0:=λh=>a (.inl ⟨rfl,l0,s0,h⟩)
    clear b a k1 k2;subst l0;subst s0;go_enter Tryz.func93,Tryz.ntmps93;go_wp2;go_ret;exact⟨rfl,rfl⟩
   ·clear b a k1 k2;subst l0;go_enter Tryz.func93,Tryz.ntmps93;go_wp2;go_ret;exact⟨rfl,rfl⟩
  ·clear b a k1 k2;go_enter Tryz.func93,Tryz.ntmps93;go_wp2;go_ret;exact⟨rfl,rfl⟩
 ·clear a;go_enter Tryz.func93,Tryz.ntmps93;go_wp2;go_ret;exact⟨rfl,rfl⟩
theorem mH (v)(l)(w)(hv:cT w.1.size w v l)(eE:dQ l) :
  Calls Tryz.prog 145 #[v] w λe w'=>e=.returned (.int .i64 (Bl.err l))/\Below w.1.size w w':=by
 obtain⟨S,T,rfl,L,y⟩:=hv.open;clear hv;unfold maxLen at L;obtain⟨n,z⟩:=qE l.length;rw[z]at L y |-;have I:Hid _:=z;have O:Hid _:=y;have P:Hid (dQ l):=eE;clear z y eE;go_enter Tryz.func145,Tryz.ntmps145;go_wp2;go_loopw [3,8] (λt i W=>∃ k:Nat,k<=n/\i=.int .i64 k/\t=.int .i64 (Bl.dE (-1) (l.take k))/\Bl.right (-1) (l.take k)/\Below w.1.size w W) (λ_ i _=>n-(intOf i).toNat)
 case atStart=>exact⟨0,MV _,rfl,rfl,trivial,MJ _ _⟩
 case round =>
  obtain⟨k,X,rfl,rfl,A,a⟩:=hrel;have g:=a.size;obtain⟨B,C⟩:=Bl.px A;obtain⟨M,o⟩:=qE (Bl.dE (-1) (l.take k));rw[o]at B C |-;have r:Hid (Bl.dE (-1) (l.take k)=M):=o;have J:Hid (Bl.right (-1) (l.take k)):=A;clear o A
  by_cases hlt:k<n
  ·obtain⟨b,d,rfl,N,D,E⟩:=O.out k hlt;have c:k<l.length:=by rw[I.out];exact hlt
   have m:=P.out.at c;rw[<-a.cell (p:=⟨b,d+k*2,none⟩) N]at D;rw[<-a.cell (p:=⟨b,d+k*2+1,none⟩) N]at E;obtain⟨x,q⟩:=qE (l.getD k (0,.empty));rw[q]at D E m;have f:Hid _:=q;clear q;obtain⟨F,s⟩:=x;simp only at D E m;obtain⟨⟨U,V⟩,G⟩:=m;unfold maxLen at G;have K:(k:Int)<(n:Int):=by omega
   by_cases h1:s.size=0
   ·have H:Hid _:=Bl.mz c f.out (λh=>h.1 h1);have u:((s.size:Int)==0)=true:=by simp[h1]
    clear h1;go_wp2;go_ret;rw[H.out];exact⟨rfl,a.alloc g _⟩
   ·have u:((s.size:Int)==0)=false:=MQ.2 (by omega)
    by_cases h2:F<=M
    ·have H:Hid _:=Bl.mz c f.out (λh=>by have:=h.2.1;rw[r.out]at this;simp only at this;omega);clear h1;go_wp2;go_ret;rw[H.out];exact⟨rfl,a.alloc g _⟩
    ·by_cases h3:(1048576:Int)-s.size<F
     ·have H:Hid _:=Bl.mz c f.out (λh=>by have:=h.2.2;simp only at this;omega);clear h1;go_wp2;go_ret;rw[H.out];exact⟨rfl,a.alloc g _⟩
     ·have Q:Hid _:=h1;clear h1;go_wp2_with fail;refine (zT F s _ qo qo).mono ?_;rintro e Y ⟨rfl,rfl⟩;go_wp2
      go_roundw
      case rel=>exact⟨k+1,qo,by go_num,by rw[Bl.ju c f],(Bl.gH c f).2 ⟨J,Q,by rw[r.out];simp only;omega,by simp only;omega⟩,(a.alloc g _).alloc qt _⟩
      case measure=>simp[intOf];omega
  ·obtain rfl:k=n:=qo
   have H:Hid (Bl.err l=0):=by
    have:=J.out;rw[<-I.out,Ns]at this;show Bl.err l=0;unfold Bl.err;rw[MC this]
   go_wp2;go_ret;rw[H.out];exact⟨rfl,a⟩
theorem x8 (v)(l)(w)(hv:cT w.1.size w v l)(eE:dQ l) :
  Calls Tryz.prog 146 #[v] w λe w'=>e=.returned (.int .i64 (Bl.fA l))/\Below w.1.size w w':=by
 have o:Hid (cT w.1.size w v l):=hv;obtain⟨J,E,rfl,r,s⟩:=hv.open;clear hv;unfold maxLen at r
 by_cases hz:l=[]
 ·subst hz;have H:Hid (Bl.fA []=0):=by show Bl.fA []=0;unfold Bl.fA;split <;> rfl
  rw[H.out];go_enter Tryz.func146,Tryz.ntmps146;go_wp2;go_ret;exact⟨rfl,MJ _ _⟩
 ·have A:0<l.length:=List.length_pos_iff.2 hz
  by_cases hr:Bl.right (-1) l
  ·obtain⟨b,g,rfl,t,j,m⟩:=s (l.length-1) (by omega);have q:Hid (Bl.err l=0):=by show Bl.err l=0;unfold Bl.err;rw[MC hr]
   obtain⟨x,c⟩:=qE (l.getD (l.length-1) (0,.empty));have d:x∈l:=by rw[<-c];simp[List.getD,List.getElem?_eq_getElem (show l.length-1<l.length by omega)]
   obtain⟨F,G,i⟩:=Bl.jk hr _ d;have H:Hid (Bl.fA l=x.1+x.2.size):=by
    show Bl.fA l=_;have h:=Bl.ju (l:=l) (k:=l.length-1) (by omega) c;rw[show l.length-1+1=l.length by omega,Ns]at h;unfold Bl.fA;rw[MC hr,Bl.pD hz 0 (-1),h]
   rw[c]at j m;obtain⟨u,y⟩:=x;unfold Bl.ee at i;simp only at j m F G i H;replace i:u+(y.size:Int)<=1048576:=i;obtain⟨n,z⟩:=qE (l.length-1);have f:l.length=n+1:=by omega
   rw[z]at j m;rw[f]at o r |-;rw[H.out];have B:Hid (dQ l):=eE;have C:((n+1:Nat):Int)-1=(n:Int):=by omega
   clear c d s A hz z f eE;go_enter Tryz.func146,Tryz.ntmps146;go_wp2_with fail;refine (mH _ l _ o.out B.out).mono ?_;rintro e I ⟨rfl,a⟩;rw[q.out];rw[<-a.cell (p:=⟨b,g+n*2,none⟩) t]at j;rw[<-a.cell (p:=⟨b,g+n*2+1,none⟩) t]at m;go_wp2_with fail;refine (zT u y _ (by omega) (by omega)).mono ?_;rintro e K ⟨rfl,rfl⟩;go_wp2;go_ret;exact⟨rfl,a.alloc a.size _⟩
  ·have q:Hid (Bl.err l=80):=ME hr
   have H:Hid (Bl.fA l=0):=ME hr
   rw[H.out];have D:((l.length:Int)==0)=false:=MQ.2 (by omega);clear hz;go_enter Tryz.func146,Tryz.ntmps146;go_wp2_with fail;refine (mH _ l _ o eE).mono ?_;rintro e I ⟨rfl,a⟩;rw[q.out];go_wp2;go_ret;exact⟨rfl,a⟩
end
end Go.Proofs.YtiifhfmekbhlnaaGreat
namespace Go.Proofs.YtiifhfmekbhlnaaGreat
section
open RowKit
structure jy (w:World) where
 out:World
 grown:w.grownBy out none
theorem ki (w):Nonempty (jy w):=⟨⟨w,jb _ _⟩⟩
theorem fK {P:Program}{id:Nat}{Q:Exit->Act->World->Prop}{a:Act}{w:World}{l:List Oper}(hm:P.follows .mixedOrders=true)(hB:Region.lexB .any l.toArray=true)(h:wpQuiet P l.toArray (λw'=>∃ p:jy w,w'=p.out) (λa'=>∀ w',(∃ p:jy w,w'=p.out)->Q .normal a' w') l a):(Code.region id l.toArray true).wp P Q a w :=
 wp_region_quiet (C:=λw'=>∃ p:jy w,w'=p.out) hm hB ⟨⟨w.drew,⟨rfl,rfl,rfl,qn,λ_ _ _=>rfl⟩⟩,rfl⟩ (by simpa using h)
theorem fN {P:Program}{f:FuncId}{args:Array Value}{w W:World}{v:Value}(hg:w.grownBy W none)(h:Calls P f args W λe w'=>e=.returned v/\Bw W w'):Calls P f args W λe w''=>e=.returned v/\∃ p:jy w,w''=p.out :=
 h.mono λ_ w' ⟨he,hw⟩=>⟨he,⟨w',cQ hg (cP hw none)⟩,rfl⟩
theorem jy.below {w:World}(p:jy w):Bw w p.out:=dR p.grown qn
namespace It
structure cL where
 gen:Int
 kind:Int
 cH:Int
 size:Int
 cF:Int
 runs:List (Int × ByteArray)
 cE:List (ByteArray × Int × Int × Int)
 next:Int
structure Rw where
 i:cL
 rp:Option Addr
 rn:Nat
 rc:Nat
 ep:Option Addr
 en:Nat
 ec:Nat
def gU:cL:=⟨0,0,0,0,0,[],[],0⟩
def gQ:Rw:=⟨gU,none,0,0,none,0,0⟩
instance:Inhabited cL:=⟨gU⟩
instance:Inhabited Rw:=⟨gQ⟩
abbrev pl (L:List Rw):List cL:=L.map Rw.i
def one (x:cL):Bool:=decide (1<=x.gen/\x.gen<=1099511627776)&&(At.right x.kind x.cH x.size x.cF&&(if x.kind=2 then x.runs.isEmpty else if x.kind=1 then x.cE.isEmpty&&decide (x.next=0)&&decide (Bl.right (-1) x.runs)&&decide (Bl.fA x.runs<=x.size) else x.cE.isEmpty&&decide (x.next=0)&&x.runs.isEmpty))
def ql:List cL->Bool
 | []=>false
 | x::_=>decide (x.kind=2)
def right (L:List cL):Bool:=decide (1<=L.length/\L.length<=24)&&(ql L&&L.all one)
def names (L:List cL) (no gen:Int):Bool:=decide (0<=no)&&(match L[no.toNat]? with | some x=>decide (x.gen=gen/\x.kind≠0) | none=>false)
def fW (k:Nat):List cL->List (Int × Int)
 | []=>[]
 | x::l=>if x.kind=0 then fW (k+1) l else ((k:Int),x.gen)::fW (k+1) l
def used (L:List cL):List (Int × Int):=fW 0 L
def gY (k:Nat):List cL->Int × Int
 | []=>((k:Int),1)
 | x::l=>if x.kind=0/\x.gen<1099511627776 then ((k:Int),x.gen+1) else gY (k+1) l
def next (L:List cL):Int × Int:=gY 0 L
def fresh (gen kind cF:Int):cL:=⟨gen,kind,1,0,cF,[],[],0⟩
def put (L:List cL) (no:Nat) (x:cL):List cL:=if no<L.length then L.set no x else L++[x]
def cM (L:List cL) (no gen:Int):Int:=if right L then (if names L no gen then 0 else 401) else 4
def oT (kind cF:Int):Bool:=decide (kind=1\/kind=2)&&decide (0<=cF/\cF<=1099511627776)
def dL (L:List cL) (kind cF:Int):Int:=if right L then (if oT kind cF then (if (next L).1=24 then 407 else 0) else 1) else 4
def jq (L:List cL) (kind cF:Int):List cL:=if dL L kind cF=0 then put L (next L).1.toNat (fresh (next L).2 kind cF) else []
def lF (L:List cL) (kind cF:Int):Int × Int:=if dL L kind cF=0 then next L else (0,0)
def dM (L:List cL) (no gen:Int) (x:cL):Int:=if cM L no gen=0 then (if x.gen=gen/\x.kind≠0 then (if right (put L no.toNat x) then 0 else 4) else 1) else cM L no gen
def iJ (L:List cL) (no gen:Int) (x:cL):List cL:=if dM L no gen x=0 then put L no.toNat x else []
def gone (gen:Int):cL:=⟨gen,0,0,0,0,[],[],0⟩
def eX (L:List cL) (no gen:Int):Int:=if cM L no gen=0 then (if no=0 then 1 else 0) else cM L no gen
def gF (L:List cL) (no gen:Int):List cL:=if eX L no gen=0 then put L no.toNat (gone gen) else []
def cY (L:List cL) (no gen:Int):cL:=if cM L no gen=0 then (L[no.toNat]?).getD gU else gU
def new:List cL:=[fresh 1 2 0]
theorem Jh {x:cL}(h:¬ (1<=x.gen/\x.gen<=1099511627776)):one x=false:=by unfold one;rw[MO h];rfl
theorem Gb {x:cL}(h:At.right x.kind x.cH x.size x.cF=false):one x=false:=by unfold one;rw[h];simp
theorem C8 {g l s t nx:Int}{rs es}(hg:1<=g/\g<=1099511627776)(ha:At.right 2 l s t=true):one ⟨g,2,l,s,t,rs,es,nx⟩=rs.isEmpty:=by
 unfold one;simp only;rw[MT hg,ha];simp
theorem uN {g l s t nx:Int}{rs es}(hg:1<=g/\g<=1099511627776)(ha:At.right 1 l s t=true):one ⟨g,1,l,s,t,rs,es,nx⟩=(es.isEmpty&&decide (nx=0)&&decide (Bl.right (-1) rs)&&decide (Bl.fA rs<=s)):=by
 unfold one;simp only;rw[MT hg,ha];simp
theorem zx {g l s t nx:Int}{rs es}(hg:1<=g/\g<=1099511627776)(ha:At.right 0 l s t=true):one ⟨g,0,l,s,t,rs,es,nx⟩=(es.isEmpty&&decide (nx=0)&&rs.isEmpty):=by
 unfold one;simp only;rw[MT hg,ha];simp
theorem ud {x:cL}(h:one x=true):1<=x.gen/\x.gen<=1099511627776:=by
 unfold one at h;simp only[Bool.and_eq_true,decide_eq_true_eq]at h;exact h.1
theorem Jm {k l s t:Int}(h:At.right k l s t=true):k=0\/k=1\/k=2:=by
 rcases At.cG.1 h with h | ⟨_,_,h | h⟩
 ·exact .inl h.1
 ·exact .inr (.inl h.1)
 ·exact .inr (.inr h.1)
theorem cG {L:List cL}:right L=true ↔ (1<=L.length/\L.length<=24)/\ql L=true/\∀ x∈L,one x=true:=by
 unfold right;simp only[Bool.and_eq_true,decide_eq_true_eq,List.all_eq_true]
theorem qp {no gen:Int}:∀ (L:List cL) (k:Nat),(no,gen)∈fW k L ↔ ∃ (i:Nat) (x:cL),L[i]?=some x/\no=((k+i:Nat):Int)/\x.gen=gen/\x.kind≠0
 | [],k=>by simp[fW]
 | y::l,k => by
  have ih:=qp (no:=no) (gen:=gen) l (k+1);have shift:(∃ (i:Nat) (x:cL),(y::l)[i]?=some x/\no=((k+i:Nat):Int)/\x.gen=gen/\x.kind≠0) ↔ (no=(k:Int)/\y.gen=gen/\y.kind≠0)\/∃ (i:Nat) (x:cL),l[i]?=some x/\no=((k+1+i:Nat):Int)/\x.gen=gen/\x.kind≠0:=by
   constructor
   ·rintro ⟨i,x,a,g,b,c⟩
    match i,a with
    | 0,a =>
     simp at a;subst a;exact .inl ⟨qo,b,c⟩
    | i+1,a=>exact .inr ⟨i,x,by simpa using a,qo,b,c⟩
   ·rintro (⟨g,b,c⟩ | ⟨i,x,a,g,b,c⟩)
    ·exact⟨0,y,rfl,qo,b,c⟩
    ·exact⟨i+1,x,by simpa using a,qo,b,c⟩
  rw[shift,<-ih];show (no,gen)∈(if y.kind=0 then fW (k+1) l else ((k:Int),y.gen)::fW (k+1) l) ↔ _;split
  ·rename_i h0
   constructor
   ·exact .inr
   ·rintro (h | h)
    ·exact absurd h0 h.2.2
    ·exact h
  ·rename_i h0
   rw[Ni,Prod.mk.injEq];constructor
   ·rintro (⟨d,f⟩ | h)
    ·exact .inl ⟨d,f.symm,h0⟩
    ·exact .inr h
   ·rintro (⟨d,f,_⟩ | h)
    ·exact .inl ⟨d,f.symm⟩
    ·exact .inr h
theorem dY {L:List cL}{no gen:Int}:names L no gen=true ↔ ∃ (i:Nat) (x:cL),L[i]?=some x/\no=(i:Int)/\x.gen=gen/\x.kind≠0:=by
 unfold names;simp only[Bool.and_eq_true,decide_eq_true_eq];constructor
 ·rintro ⟨d,h⟩;split at h
  ·rename_i x a
   simp at h;exact⟨no.toNat,x,a,qo,h.1,h.2⟩
  ·cases h
 ·rintro ⟨i,x,a,rfl,b,c⟩;refine⟨qo,?_⟩;rw[show ((i:Int)).toNat=i from by omega,a];simp[b,c]
theorem kW {L:List cL}{no gen:Int}:(no,gen)∈used L ↔ names L no gen=true:=by
 unfold used;rw[qp,dY];simp
theorem nf:∀ (L:List cL) (x:cL) (k:Nat),fW k (L++[x])=fW k L++(if x.kind=0 then [] else [(((k+L.length:Nat):Int),x.gen)])
 | [],x,k=>by simp[fW]
 | y::l,x,k=>by
  have:=nf l x (k+1);simp only[List.cons_append,fW,this,List.length_cons];rw[show k+1+l.length=k+(l.length+1) from by omega];split <;> simp
theorem take_succ {β:Type}{l:List β}{k:Nat}{x:β}(h:l[k]?=some x):l.take (k+1)=l.take k++[x]:=by
 rw[NF,h];rfl
theorem nH {L:List cL}{k:Nat}{x:cL}(h:L[k]?=some x):used (L.take (k+1))=used (L.take k)++(if x.kind=0 then [] else [((k:Int),x.gen)]):=by
 have a:=(qM h);unfold used;rw[take_succ h,nf];simp[Nat.min_eq_left (Nat.le_of_lt a)]
theorem nh:∀ (L:List cL) (k:Nat),(fW k L).length<=L.length
 | [],k=>by simp[fW]
 | y::l,k=>by
  have:=nh l (k+1);unfold fW;split <;> simp <;> omega
theorem ln (L):(used L).length<=L.length:=nh L 0
theorem lQ:∀ (L:List cL) (k:Nat) (j:Nat),j<=L.length->(∀ i x,i<j->L[i]?=some x->¬ (x.kind=0/\x.gen<1099511627776))->gY k L=gY (k+j) (L.drop j)
 | L,k,0,_,_=>by simp
 | [],k,j+1,hj,_=>by simp at hj
 | y::l,k,j+1,hj,h=>by
  have ih:=lQ l (k+1) j (by simpa using hj) (λi x hi hx=>h (i+1) x qo (by simpa using hx));have h0:=h 0 y qo rfl;rw[List.drop_succ_cons,show k+(j+1)=k+1+j from by omega,<-ih];simp only[gY];rw[ME h0]
theorem E7 {L:List cL}{j:Nat}{x:cL}(hx:L[j]?=some x)(h:∀ i x,i<j->L[i]?=some x->¬ (x.kind=0/\x.gen<1099511627776))(hf:x.kind=0/\x.gen<1099511627776):next L=((j:Int),x.gen+1):=by
 have a:=(qM hx);unfold next;rw[lQ L 0 j qo h,Ob a];have e:=(MN.1 hx).2;rw[e];simp only[gY];rw[MC hf];simp
theorem E1 {L:List cL}(h:∀ i x,i<L.length->L[i]?=some x->¬ (x.kind=0/\x.gen<1099511627776)):next L=((L.length:Int),1):=by
 unfold next;rw[lQ L 0 L.length qn h];simp[gY]
theorem nY:∀ (L:List cL) (k:Nat),(∃ (j:Nat) (x:cL),L[j]?=some x/\x.kind=0/\x.gen<1099511627776/\gY k L=(((k+j:Nat):Int),x.gen+1))\/gY k L=(((k+L.length:Nat):Int),1)
 | [],k=>.inr (by simp[gY])
 | y::l,k => by
  unfold gY;split
  ·rename_i h
   exact .inl ⟨0,y,rfl,h.1,h.2,qs⟩
  ·rcases nY l (k+1)with⟨j,x,hx,h1,h2,h3⟩ | h
   ·exact .inl ⟨j+1,x,by simpa using hx,h1,h2,by rw[h3,show k+1+j=k+(j+1) from by omega]⟩
   ·exact .inr (by rw[h,MZ,show k+1+l.length=k+(l.length+1) from by omega])
theorem lg (L):(∃ (j:Nat) (x:cL),L[j]?=some x/\x.kind=0/\x.gen<1099511627776/\next L=((j:Int),x.gen+1))\/next L=((L.length:Int),1):=by
 have:=nY L 0;unfold next;simpa using this
theorem CQ (L):0<=(next L).1/\(next L).1<=L.length:=by
 rcases lg L with⟨j,x,a,_,_,h⟩ | h
 ·have:=(qM a);rw[h];exact⟨qo,qo⟩
 ·rw[h];exact⟨qo,qo⟩
theorem Bp (L)(no)(x):(put L no x).length=max L.length (if no<L.length then 0 else L.length+1):=by
 unfold put;split <;> simp
end It
open It
def EE:fY (ByteArray × Int × Int × Int):=⟨4,λx=>[.string x.1,.int .i64 x.2.1,.int .i64 x.2.2.1,.int .i64 x.2.2.2],λ_=>rfl,λx u hu=>by
 simp at hu;rcases hu with rfl | rfl | rfl | rfl <;> rfl⟩
def EH:fY (Int × Int):=⟨2,λx=>[.int .i64 x.1,.int .i64 x.2],λ_=>rfl,λx u hu=>by
 simp at hu;rcases hu with rfl | rfl <;> rfl⟩
def EI:fY Rw:=⟨8,λx=>[.int .i64 x.i.gen,.int .i64 x.i.kind,.int .i64 x.i.cH,.int .i64 x.i.size,.int .i64 x.i.cF,.slice x.rp x.rn x.rc,.slice x.ep x.en x.ec,.int .i64 x.i.next],λ_=>rfl,λx u hu=>by
 simp at hu;rcases hu with rfl | rfl | rfl | rfl | rfl | rfl | rfl | rfl <;> rfl⟩
abbrev VI (x:Rw):Value:=.agg #[.int .i64 x.i.gen,.int .i64 x.i.kind,.int .i64 x.i.cH,.int .i64 x.i.size,.int .i64 x.i.cF,.slice x.rp x.rn x.rc,.slice x.ep x.en x.ec,.int .i64 x.i.next]
def LB (x:cL):Prop:=dQ x.runs/\x.runs.length<=5864062014805/\x.cE.length<=3518437208883
def Good (S:Nat->Prop) (w:World) (x:Rw):Prop:=At ER S w (.slice x.rp x.rn x.rc) x.i.runs/\At EE S w (.slice x.ep x.en x.ec) x.i.cE/\LB x.i
def cD (S:Nat->Prop) (w:World) (v:Value) (L:List Rw):Prop:=At EI S w v L/\∀ x∈L,Good S w x
abbrev L0 (w:World) (v:Value) (L:List Rw):Prop:=cD (λ_=>True) w v L
abbrev JM (w:World) (x:Rw):Prop:=Good (λ_=>True) w x
theorem Good.up {S:Nat->Prop}{w w':World}{x:Rw}(h:Good S w x)(hb:Bw w w'):Good S w' x:=⟨h.1.up hb,h.2.1.up hb,h.2.2⟩
theorem cD.up {S:Nat->Prop}{w w':World}{v:Value}{L:List Rw}(h:cD S w v L)(hb:Bw w w'):cD S w' v L:=⟨h.1.up hb,λx a=>(h.2 x a).up hb⟩
theorem Good.len {S:Nat->Prop}{w:World}{x:Rw}(h:Good S w x):x.rn=x.i.runs.length/\x.en=x.i.cE.length:=by
 obtain⟨_,_,a,_⟩:=h.1.open;obtain⟨_,_,b,_⟩:=h.2.1.open;simp only[Value.slice.injEq]at a b;exact⟨a.2.1,b.2.1⟩
def eight (w:World) (b o:Nat) (x:Rw):Prop :=
 w.cell? ⟨b,o,none⟩=some (.int .i64 x.i.gen)/\w.cell? ⟨b,o+1,none⟩=some (.int .i64 x.i.kind)/\w.cell? ⟨b,o+2,none⟩=some (.int .i64 x.i.cH)/\w.cell? ⟨b,o+3,none⟩=some (.int .i64 x.i.size) /\
 w.cell? ⟨b,o+4,none⟩=some (.int .i64 x.i.cF)/\w.cell? ⟨b,o+5,none⟩=some (.slice x.rp x.rn x.rc)/\w.cell? ⟨b,o+6,none⟩=some (.slice x.ep x.en x.ec)/\w.cell? ⟨b,o+7,none⟩=some (.int .i64 x.i.next)
theorem eight.below {w w':World}{b o B:Nat}{x:Rw}(h:eight w b o x)(hb:Below B w w')(hB:b<B):eight w' b o x:=by
 obtain⟨a,c,d,f,g,i,j,k⟩:=h;exact⟨(hb.cell (p:=⟨b,o,none⟩) hB).trans a,(hb.cell (p:=⟨b,o+1,none⟩) hB).trans c,(hb.cell (p:=⟨b,o+2,none⟩) hB).trans d,(hb.cell (p:=⟨b,o+3,none⟩) hB).trans f,
  (hb.cell (p:=⟨b,o+4,none⟩) hB).trans g,(hb.cell (p:=⟨b,o+5,none⟩) hB).trans i,(hb.cell (p:=⟨b,o+6,none⟩) hB).trans j,(hb.cell (p:=⟨b,o+7,none⟩) hB).trans k⟩
theorem cD.open {S:Nat->Prop}{w:World}{v:Value}{L:List Rw}(h:cD S w v L):∃ ao cap,v=.slice ao L.length cap/\L.length<=maxLen /\
  ∀ i x,L[i]?=some x->(∃ b off,ao=some ⟨b,off,none⟩/\b<w.1.size/\eight w b (off+i*8) x)/\Good S w x:=by
 obtain⟨ao,cap,d,f,g⟩:=h.1.open;refine⟨ao,cap,d,f,λi x a=>⟨?_,h.2 x (MG a)⟩⟩;obtain⟨b,off,j,_,l,m⟩:=g i x a;refine⟨b,off,j,l,?_⟩;have c:∀ k u,(EI.cells x)[k]?=some u->w.cell? ⟨b,off+i*8+k,none⟩=some u:=λk u n=>by
  rw[NC];exact m k u n
 exact⟨c 0 _ rfl,c 1 _ rfl,c 2 _ rfl,c 3 _ rfl,c 4 _ rfl,c 5 _ rfl,c 6 _ rfl,c 7 _ rfl⟩
end
section
open ChangeShapes WideShapes ChangeAt RowKit Deep It
theorem FE {α : Type}[Inhabited α](E : fY α){H : Type}{enc : TypeId × Value → H}{P : Program}{w : World}{t e : TypeId}{fuel : Nat}{v : Value}{dx : DataW H × List MemPlace}(ht : P.underlying t=some (.slice e))(ce : P.cellsOf e=E.sz)(hsz : 0<E.sz){Q : α → DataW H → Prop}(elem:∀ n cs d pl,cs.length=E.sz->DataW.trod enc P w 0 (λ_=>true) true n e cs=some (d,pl)->∃ x,cs=E.cells x/\Q x d)(hf:DataW.trod enc P w 0 (λ_=>true) true fuel t [v]=some dx) :
  ∃ l:List α,ey E w v l/\((dx.1=.nil/\l=[])\/∃ es sp:List (DataW H),dx.1=.slice es sp/\es.length=l.length/\∀ (i:Nat) (x:α),l[i]?=some x->∃ d,es[i]?=some d/\Q x d):=by
 rcases open_slice ht hf with⟨f,R⟩ | ⟨a,c,S,m,n,D,Pl,f,hb,hl,Z,T,hd,R⟩
 ·simp at f
  subst f;exact⟨[],.inl ⟨_,_,rfl,rfl⟩,.inl ⟨by rw[R],rfl⟩⟩
 ·simp at f
  subst f;have Y:c<=m:=by rw[T];split <;> omega
  have y:∀ i,i<c->∃ x:α,(∀ j u,(E.cells x)[j]?=some u->w.cell? ((a.add (i*E.sz)).add j)=some u)/\Q x (D i):=by
   intro i g;obtain⟨aa,X,h2⟩:=R i qo;rw[ce]at X;obtain⟨_,C,s⟩:=World.cells?_some X;obtain⟨x,rfl,F⟩:=elem _ _ _ _ C h2;refine⟨x,λj u h=>?_,F⟩;have K:j<E.sz:=by have:=(MN.1 h).1;rwa [E.len]at this
   have:=s j K;rw[this];exact h
  obtain⟨q,F⟩:=choose_lt y;have k:((List.range c).map q).length=c:=qs
  refine⟨(List.range c).map q,?_,.inr ⟨_,_,by rw[hd],qs,λi x g=>?_⟩⟩
  ·by_cases hp : 0<c
   ·obtain⟨b,G,I⟩ := a
    obtain⟨u0,U⟩:∃ u,(E.cells (q 0))[0]?=some u:=⟨_,MF (by rw[E.len];exact hsz)⟩;have o:=(F 0 hp).1 0 u0 U;have p:I=none:=by simpa [Addr.add]using World.cell?_spot o
    subst p;rw[Nu,Nu]at o;have L:∀ i,i<c->∀ j u,(E.cells (q i))[j]?=some u->w.cell? ⟨b,G+(i*E.sz+j),none⟩=some u:=λi g j u h=>by
     have V:=(F i g).1 j u h;rw[Nu,Nu,NC]at V;exact V
    refine .inr ⟨b,G,S,by rw[k],trivial,Nk _ _ o,qo,qo,Z,λj u h=>?_⟩;have z:=(MN.1 h).1;rw[E.eh,k]at z;have g:j / E.sz<c:=(Nat.div_lt_iff_lt_mul hsz).2 z;have M:((List.range c).map q)[j / E.sz]?=some (q (j / E.sz)):=by simp[g]
    have A:j % E.sz<E.sz:=Nat.mod_lt _ hsz;obtain⟨u1,J⟩:∃ u,(E.cells (q (j / E.sz)))[j % E.sz]?=some u:=⟨_,MF (by rw[E.len];exact A)⟩;have B:=E.lD _ _ _ M _ _ J;have N:j / E.sz*E.sz+j % E.sz=j:=by rw[OY];exact Nat.div_add_mod _ _
    have W:=L _ g _ _ J;rw[N]at B W;rw[B]at h
    cases h
    exact W
   ·have : c=0 := by omega
    subst this;exact .inl ⟨_,_,rfl,rfl⟩
  ·have r : i<c := by have := (MN.1 g).1;rwa [k]at this
   have O:x=q i:=by simpa [r]using g.symm
   subst O;exact⟨D i,by simp[r],(F i r).2⟩
theorem eJ (lo x hi)(w):Calls Tryz.prog 100 #[.int .i64 lo,.int .i64 x,.int .i64 hi] w λe w'=>e=.returned (.bool (decide (lo<=x/\x<=hi)))/\w'=w:=by
 by_cases h1:lo<=x
 ·by_cases h2:x<=hi
  ·rw[MT (show lo<=x/\x<=hi from⟨h1,h2⟩)];go_enter Tryz.func100,Tryz.ntmps100;go_wp2;go_ret;exact⟨rfl,rfl⟩
  ·rw[MO (show ¬ (lo<=x/\x<=hi) from λh=>h2 h.2)];go_enter Tryz.func100,Tryz.ntmps100;go_wp2;go_ret;exact⟨rfl,rfl⟩
 ·rw[MO (show ¬ (lo<=x/\x<=hi) from λh=>h1 h.1)];go_enter Tryz.func100,Tryz.ntmps100;go_wp2;go_ret;exact⟨rfl,rfl⟩
theorem dD (lo x hi)(w)(h:lo<=x/\x<=hi):Calls Tryz.prog 100 #[.int .i64 lo,.int .i64 x,.int .i64 hi] w λe w'=>e=.returned (.bool true)/\w'=w:=by
 have:=eJ lo x hi w
 rwa [MT h]at this
theorem ix (lo x hi)(w)(h:¬ (lo<=x/\x<=hi)):Calls Tryz.prog 100 #[.int .i64 lo,.int .i64 x,.int .i64 hi] w λe w'=>e=.returned (.bool false)/\w'=w:=by
 have:=eJ lo x hi w
 rwa [MO h]at this
theorem lJ {β:Type}(l:List β){n:Nat}(h:n=l.length):l.isEmpty=decide (n=0):=by
 subst h
 cases l <;> simp
theorem EM (g k l s t nx)(rp ep)(rn rc en ec)(w)(hg:¬ (1<=g/\g<=1099511627776)) :
  Calls Tryz.prog 101 #[.agg #[.int .i64 g,.int .i64 k,.int .i64 l,.int .i64 s,.int .i64 t,.slice rp rn rc,.slice ep en ec,.int .i64 nx]] w λe w'=>e=.returned (.bool false)/\Bw w w':=by
 have a:Hid _:=hg;clear hg;go_enter Tryz.func101,Tryz.ntmps101;go_wp2_with fail;refine (ix _ _ _ _ a).mono ?_;rintro e w' ⟨rfl,rfl⟩;go_wp2;go_ret;exact⟨rfl,qG _ _⟩
theorem Co (g k l s t nx)(rp ep)(rn rc en ec)(w)(hg:1<=g/\g<=1099511627776)(ha:At.right k l s t=false) :
  Calls Tryz.prog 101 #[.agg #[.int .i64 g,.int .i64 k,.int .i64 l,.int .i64 s,.int .i64 t,.slice rp rn rc,.slice ep en ec,.int .i64 nx]] w λe w'=>e=.returned (.bool false)/\Bw w w':=by
 have a:Hid _:=hg;have b:Hid _:=ha;clear hg ha;go_enter Tryz.func101,Tryz.ntmps101;go_wp2_with fail;refine (dD _ _ _ _ a).mono ?_;rintro e w' ⟨rfl,rfl⟩;go_wp2_with fail;refine (jQ _ _ _ _ _ b).mono ?_;rintro e w' ⟨rfl,rfl⟩;go_wp2;go_ret;exact⟨rfl,(qG _ _).alloc qs _⟩
theorem Ds (g l s t nx)(rp ep)(rn rc en ec)(w)(hg:1<=g/\g<=1099511627776)(ha:At.right 2 l s t=true) :
  Calls Tryz.prog 101 #[.agg #[.int .i64 g,.int .i64 2,.int .i64 l,.int .i64 s,.int .i64 t,.slice rp rn rc,.slice ep en ec,.int .i64 nx]] w λe w'=>e=.returned (.bool (decide (rn=0)))/\Bw w w':=by
 have b:Hid _:=hg;have c:Hid _:=ha;clear hg ha
 by_cases he:en=0
 ·have d:((en:Int)==0)=true:=by simp[he]
  by_cases hn:nx=0
  ·have f:(nx==0)=true:=by simp[hn]
   clear he hn
   by_cases hr:rn=0
   ·have a:((rn:Int)==0)=true:=by simp[hr]
    rw[MT hr];clear hr;go_enter Tryz.func101,Tryz.ntmps101;go_wp2_with fail;refine (dD _ _ _ _ b).mono ?_;rintro e w' ⟨rfl,rfl⟩;go_wp2_with fail;refine (dF _ _ _ _ _ c).mono ?_;rintro e w' ⟨rfl,rfl⟩;go_wp2;go_ret;exact⟨rfl,(qG _ _).alloc qs _⟩
   ·have a:((rn:Int)==0)=false:=qt
    rw[MO hr];clear hr;go_enter Tryz.func101,Tryz.ntmps101;go_wp2_with fail;refine (dD _ _ _ _ b).mono ?_;rintro e w' ⟨rfl,rfl⟩;go_wp2_with fail;refine (dF _ _ _ _ _ c).mono ?_;rintro e w' ⟨rfl,rfl⟩;go_wp2;go_ret;exact⟨rfl,(qG _ _).alloc qs _⟩
  ·have f:(nx==0)=false:=by simp[hn]
   clear he hn
   by_cases hr:rn=0
   ·have a:((rn:Int)==0)=true:=by simp[hr]
    rw[MT hr];clear hr;go_enter Tryz.func101,Tryz.ntmps101;go_wp2_with fail;refine (dD _ _ _ _ b).mono ?_;rintro e w' ⟨rfl,rfl⟩;go_wp2_with fail;refine (dF _ _ _ _ _ c).mono ?_;rintro e w' ⟨rfl,rfl⟩;go_wp2;go_ret;exact⟨rfl,(qG _ _).alloc qs _⟩
   ·have a:((rn:Int)==0)=false:=qt
    rw[MO hr];clear hr;go_enter Tryz.func101,Tryz.ntmps101;go_wp2_with fail;refine (dD _ _ _ _ b).mono ?_;rintro e w' ⟨rfl,rfl⟩;go_wp2_with fail;refine (dF _ _ _ _ _ c).mono ?_;rintro e w' ⟨rfl,rfl⟩;go_wp2;go_ret;exact⟨rfl,(qG _ _).alloc qs _⟩
 ·have d:((en:Int)==0)=false:=qt
  clear he
  by_cases hr:rn=0
  ·have a:((rn:Int)==0)=true:=by simp[hr]
   rw[MT hr];clear hr;go_enter Tryz.func101,Tryz.ntmps101;go_wp2_with fail;refine (dD _ _ _ _ b).mono ?_;rintro e w' ⟨rfl,rfl⟩;go_wp2_with fail;refine (dF _ _ _ _ _ c).mono ?_;rintro e w' ⟨rfl,rfl⟩;go_wp2;go_ret;exact⟨rfl,(qG _ _).alloc qs _⟩
  ·have a:((rn:Int)==0)=false:=qt
   rw[MO hr];clear hr;go_enter Tryz.func101,Tryz.ntmps101;go_wp2_with fail;refine (dD _ _ _ _ b).mono ?_;rintro e w' ⟨rfl,rfl⟩;go_wp2_with fail;refine (dF _ _ _ _ _ c).mono ?_;rintro e w' ⟨rfl,rfl⟩;go_wp2;go_ret;exact⟨rfl,(qG _ _).alloc qs _⟩
theorem CA (g l s t nx)(rp ep)(rn rc en ec)(w)(hg:1<=g/\g<=1099511627776)(ha:At.right 0 l s t=true) :
  Calls Tryz.prog 101 #[.agg #[.int .i64 g,.int .i64 0,.int .i64 l,.int .i64 s,.int .i64 t,.slice rp rn rc,.slice ep en ec,.int .i64 nx]] w λe w'=>e=.returned (.bool (decide (en=0)&&decide (nx=0)&&decide (rn=0)))/\Bw w w':=by
 have a:Hid _:=hg;have b:Hid _:=ha;clear hg ha
 by_cases he:en=0
 ·have c:((en:Int)==0)=true:=by simp[he]
  by_cases hn:nx=0
  ·have d:(nx==0)=true:=by simp[hn]
   rw[MT he,MT hn];clear he hn;simp only[Bool.and_self,Bool.true_and]
   by_cases hr:rn=0
   ·have f:((rn:Int)==0)=true:=by simp[hr]
    rw[MT hr];clear hr;go_enter Tryz.func101,Tryz.ntmps101;go_wp2_with fail;refine (dD _ _ _ _ a).mono ?_;rintro e w' ⟨rfl,rfl⟩;go_wp2_with fail;refine (dF _ _ _ _ _ b).mono ?_;rintro e w' ⟨rfl,rfl⟩;go_wp2;go_ret;exact⟨rfl,(qG _ _).alloc qs _⟩
   ·have f:((rn:Int)==0)=false:=qt
    rw[MO hr];clear hr;go_enter Tryz.func101,Tryz.ntmps101;go_wp2_with fail;refine (dD _ _ _ _ a).mono ?_;rintro e w' ⟨rfl,rfl⟩;go_wp2_with fail;refine (dF _ _ _ _ _ b).mono ?_;rintro e w' ⟨rfl,rfl⟩;go_wp2;go_ret;exact⟨rfl,(qG _ _).alloc qs _⟩
  ·have d:(nx==0)=false:=by simp[hn]
   rw[MO hn];clear he hn;simp only[Bool.and_false,Bool.false_and];go_enter Tryz.func101,Tryz.ntmps101;go_wp2_with fail;refine (dD _ _ _ _ a).mono ?_;rintro e w' ⟨rfl,rfl⟩;go_wp2_with fail;refine (dF _ _ _ _ _ b).mono ?_;rintro e w' ⟨rfl,rfl⟩;go_wp2;go_ret;exact⟨rfl,(qG _ _).alloc qs _⟩
 ·have c:((en:Int)==0)=false:=qt
  rw[MO he];clear he;simp only[Bool.false_and];go_enter Tryz.func101,Tryz.ntmps101;go_wp2_with fail;refine (dD _ _ _ _ a).mono ?_;rintro e w' ⟨rfl,rfl⟩;go_wp2_with fail;refine (dF _ _ _ _ _ b).mono ?_;rintro e w' ⟨rfl,rfl⟩;go_wp2;go_ret;exact⟨rfl,(qG _ _).alloc qs _⟩
theorem yz (g l s t nx)(rp ep)(rn rc en ec)(w)(hg:1<=g/\g<=1099511627776)(ha:At.right 1 l s t=true)(hb:¬ (en=0/\nx=0)) :
  Calls Tryz.prog 101 #[.agg #[.int .i64 g,.int .i64 1,.int .i64 l,.int .i64 s,.int .i64 t,.slice rp rn rc,.slice ep en ec,.int .i64 nx]] w λe w'=>e=.returned (.bool false)/\Bw w w':=by
 have b:Hid _:=hg;have c:Hid _:=ha;clear hg ha
 by_cases he:en=0
 ·have a:((en:Int)==0)=true:=by simp[he]
  have d:(nx==0)=false:=by
   rw[MQ];intro h;exact hb ⟨he,h⟩
  clear he hb;go_enter Tryz.func101,Tryz.ntmps101;go_wp2_with fail;refine (dD _ _ _ _ b).mono ?_;rintro e w' ⟨rfl,rfl⟩;go_wp2_with fail;refine (dF _ _ _ _ _ c).mono ?_;rintro e w' ⟨rfl,rfl⟩;go_wp2
  go_quiet (fail)
  go_wp2;go_ret;exact⟨rfl,Ol ((qG _ _).alloc qs _) _⟩
 ·have a:((en:Int)==0)=false:=qt
  clear he hb;go_enter Tryz.func101,Tryz.ntmps101;go_wp2_with fail;refine (dD _ _ _ _ b).mono ?_;rintro e w' ⟨rfl,rfl⟩;go_wp2_with fail;refine (dF _ _ _ _ _ c).mono ?_;rintro e w' ⟨rfl,rfl⟩;go_wp2
  go_quiet (fail)
  go_wp2;go_ret;exact⟨rfl,Ol ((qG _ _).alloc qs _) _⟩
theorem vS (g l s t nx:Int)(rp ep:Option Addr)(rn rc en ec:Nat)(w:World)(hg:1<=g/\g<=1099511627776)(ha:At.right 1 l s t=true)(hb:en=0/\nx=0)(rs:List (Int × ByteArray))(hr:ey ER w (.slice rp rn rc) rs)(ho:dQ rs) (hq:¬ Bl.right (-1) rs) :
  Calls Tryz.prog 101 #[.agg #[.int .i64 g,.int .i64 1,.int .i64 l,.int .i64 s,.int .i64 t,.slice rp rn rc,.slice ep en ec,.int .i64 nx]] w λe w'=>e=.returned (.bool false)/\Bw w w':=by
 have c:Hid _:=hg;have d:Hid _:=ha;clear hg ha;have f:(nx==0)=true:=by simp[hb.2]
 have h:((en:Int)==0)=true:=by simp[hb.1]
 have a:Bw w ((w.alloc (.cells #[.int .i64 g,.int .i64 1,.int .i64 l,.int .i64 s,.int .i64 t,.slice rp rn rc,.slice ep en ec,.int .i64 nx] 86)).alloc (BA 1 l s t)):=(qG _ _).alloc (by simp) _;have i:Hid (∀ W,((w.alloc (.cells #[.int .i64 g,.int .i64 1,.int .i64 l,.int .i64 s,.int .i64 t,.slice rp rn rc,.slice ep en ec,.int .i64 nx] 86)).alloc (BA 1 l s t)).grownBy W none->Calls Tryz.prog 145 #[.slice rp rn rc] W λe w'=>e=.returned (.int .i64 (80))/\Bw W w'):=λW q=>by
  have:=mH _ rs W ((hr.up a).up (dR q qn)).fields ho
  rwa [show Bl.err rs=80 from by unfold Bl.err;rw[ME hq]]at this
 have j:∀ p:jy ((w.alloc (.cells #[.int .i64 g,.int .i64 1,.int .i64 l,.int .i64 s,.int .i64 t,.slice rp rn rc,.slice ep en ec,.int .i64 nx] 86)).alloc (BA 1 l s t)),p.out.cell? ⟨w.1.size,5,none⟩=some (.slice rp rn rc):=λp=>p.grown.cell qs qs
 have k:∀ p:jy ((w.alloc (.cells #[.int .i64 g,.int .i64 1,.int .i64 l,.int .i64 s,.int .i64 t,.slice rp rn rc,.slice ep en ec,.int .i64 nx] 86)).alloc (BA 1 l s t)),p.out.cell? ⟨w.1.size,3,none⟩=some (.int .i64 s):=λp=>p.grown.cell qs (by simp)
 have b:Nonempty (jy ((w.alloc (.cells #[.int .i64 g,.int .i64 1,.int .i64 l,.int .i64 s,.int .i64 t,.slice rp rn rc,.slice ep en ec,.int .i64 nx] 86)).alloc (BA 1 l s t))):=ki _;have m:Hid _:=a;clear hr ho hb hq a;go_enter Tryz.func101,Tryz.ntmps101;go_wp2_with fail;refine (dD _ _ _ _ c.out).mono ?_;rintro e w' ⟨rfl,rfl⟩;go_wp2_with fail;refine (dF _ _ _ _ _ d.out).mono ?_;rintro e w' ⟨rfl,rfl⟩;go_wp2;refine fK qk qk ?_
 repeat (go_big_quiet_step (first | (go_at_call 145;refine fN (jy.grown _) (i _ (jy.grown _)))))
 rintro r ⟨o,rfl⟩;have n:=qJ m o.below;go_wp2;go_ret;exact⟨rfl,n⟩
theorem Ci (g l s t nx:Int)(rp ep:Option Addr)(rn rc en ec:Nat)(w:World)(hg:1<=g/\g<=1099511627776)(ha:At.right 1 l s t=true)(hb:en=0/\nx=0)(rs:List (Int × ByteArray))(hr:ey ER w (.slice rp rn rc) rs)(ho:dQ rs) (hq:Bl.right (-1) rs) :
  Calls Tryz.prog 101 #[.agg #[.int .i64 g,.int .i64 1,.int .i64 l,.int .i64 s,.int .i64 t,.slice rp rn rc,.slice ep en ec,.int .i64 nx]] w λe w'=>e=.returned (.bool (decide (Bl.fA rs<=s)))/\Bw w w':=by
 have h:Hid _:=hg;have i:Hid _:=ha;clear hg ha;have j:(nx==0)=true:=by simp[hb.2]
 have k:((en:Int)==0)=true:=by simp[hb.1]
 have b:Bw w ((w.alloc (.cells #[.int .i64 g,.int .i64 1,.int .i64 l,.int .i64 s,.int .i64 t,.slice rp rn rc,.slice ep en ec,.int .i64 nx] 86)).alloc (BA 1 l s t)):=(qG _ _).alloc (by simp) _;have m:Hid (∀ W,((w.alloc (.cells #[.int .i64 g,.int .i64 1,.int .i64 l,.int .i64 s,.int .i64 t,.slice rp rn rc,.slice ep en ec,.int .i64 nx] 86)).alloc (BA 1 l s t)).grownBy W none->Calls Tryz.prog 145 #[.slice rp rn rc] W λe w'=>e=.returned (.int .i64 (0))/\Bw W w'):=λW c=>by
  have:=mH _ rs W ((hr.up b).up (dR c qn)).fields ho
  rwa [show Bl.err rs=0 from by unfold Bl.err;rw[MC hq]]at this
 have d:Hid (∀ W,((w.alloc (.cells #[.int .i64 g,.int .i64 1,.int .i64 l,.int .i64 s,.int .i64 t,.slice rp rn rc,.slice ep en ec,.int .i64 nx] 86)).alloc (BA 1 l s t)).grownBy W none->Calls Tryz.prog 146 #[.slice rp rn rc] W λe w'=>e=.returned (.int .i64 (Bl.fA rs))/\Bw W w'):=λW c=>x8 _ rs W ((hr.up b).up (dR c qn)).fields ho
 have n:∀ p:jy ((w.alloc (.cells #[.int .i64 g,.int .i64 1,.int .i64 l,.int .i64 s,.int .i64 t,.slice rp rn rc,.slice ep en ec,.int .i64 nx] 86)).alloc (BA 1 l s t)),p.out.cell? ⟨w.1.size,5,none⟩=some (.slice rp rn rc):=λp=>p.grown.cell qs qs
 have o:∀ p:jy ((w.alloc (.cells #[.int .i64 g,.int .i64 1,.int .i64 l,.int .i64 s,.int .i64 t,.slice rp rn rc,.slice ep en ec,.int .i64 nx] 86)).alloc (BA 1 l s t)),p.out.cell? ⟨w.1.size,3,none⟩=some (.int .i64 s):=λp=>p.grown.cell qs (by simp)
 have f:Nonempty (jy ((w.alloc (.cells #[.int .i64 g,.int .i64 1,.int .i64 l,.int .i64 s,.int .i64 t,.slice rp rn rc,.slice ep en ec,.int .i64 nx] 86)).alloc (BA 1 l s t))):=ki _;have q:Hid _:=b;clear hr ho hb hq b;obtain⟨u,a⟩:=qE (Bl.fA rs);rw[a]at d |-;clear a;go_enter Tryz.func101,Tryz.ntmps101;go_wp2_with fail;refine (dD _ _ _ _ h.out).mono ?_;rintro e w' ⟨rfl,rfl⟩;go_wp2_with fail;refine (dF _ _ _ _ _ i.out).mono ?_;rintro e w' ⟨rfl,rfl⟩;go_wp2;refine fK qk qk ?_
 repeat (go_big_quiet_step (first | (go_at_call 145;refine fN (jy.grown _) (m _ (jy.grown _))) | (go_at_call 146;refine fN (jy.grown _) (d _ (jy.grown _)))))
 rintro x ⟨v,rfl⟩;have r:=qJ q v.below;go_wp2;go_ret;exact⟨rfl,r⟩
theorem Di {S:Nat->Prop}(x)(w)(h:Good S w x):Calls Tryz.prog 101 #[VI x] w λe w'=>e=.returned (.bool (one x.i))/\Bw w w':=by
 obtain⟨c,d⟩:=h.len;obtain⟨q,_,r,_⟩:=h;obtain⟨⟨g,k,l,s,t,p,u,a⟩,f,j,m,n,b,o⟩:=x;simp only at c d q r |-
 by_cases hg:1<=g/\g<=1099511627776
 ·cases ha:At.right k l s t with
  | false =>
   rw[Gb ha];exact Co g k l s t a f n j m b o w hg ha
  | true =>
   rcases Jm ha with rfl | rfl | rfl
   ·rw[zx hg ha,lJ u d,lJ p c];exact CA g l s t a f n j m b o w hg ha
   ·rw[uN hg ha,lJ u d]
    by_cases hb:b=0/\a=0
    ·rw[MT hb.1,MT hb.2]
     by_cases hq:Bl.right (-1) p
     ·rw[MT hq];exact Ci g l s t a f n j m b o w hg ha hb p q.wide r hq
     ·rw[MO hq];exact vS g l s t a f n j m b o w hg ha hb p q.wide r hq
    ·rw[show (decide (b=0)&&decide (a=0))=false from by simpa using hb];exact yz g l s t a f n j m b o w hg ha hb
   ·rw[C8 hg ha,lJ p c];exact Ds g l s t a f n j m b o w hg ha
 ·rw[Jh hg];exact EM g k l s t a f n j m b o w hg
end
end Go.Proofs.YtiifhfmekbhlnaaGreat
