/- Part 18. -/
import Derived.WalkKit
import Derived.ProofKit
import Derived.Deep.AppendSrc
import Derived.Deep.DeepAppendWide
import Derived.WalkSmall
import Derived.BigQuiet
import Derived.Deep.QuietTactic
import Derived.Laws.ResultCell
import Derived.RangeFuncNested
import Derived.RangeFuncBound
import Derived.RangeFuncCalls
import Derived.RangeFuncLeaves
import Derived.WalkSpells
import Derived.WalkLawsBesides
import Derived.Deep.RegionHeld3
import Derived.Deep.SlicePairs
import Derived.Lib.IndexBytes
import Derived.Laws.BitsAllLaws
import Derived.Laws.BytesArg
import Derived.Deep.OwnRows
import Derived.RangeFuncBox
import Derived.OneCell
import Derived.Test.YtiifhfmekbhlnaaGreatH17
set_option maxHeartbeats 8000000
set_option maxRecDepth 100000
namespace Go.Proofs.YtiifhfmekbhlnaaGreat
open RowKit (wrap64)
namespace Bl
theorem iP (l:List UInt8):(jA l).size=l.length:=by simp[jA,ByteArray.size]
theorem data_append (a b:ByteArray):(a++b).data.toList=a.data.toList++b.data.toList:=by simp
theorem size_append (a b:ByteArray):(a++b).size=a.size+b.size:=by simp
theorem fX (s:ByteArray) (a b:Nat):s.extract a b=jA ((s.data.toList.drop a).take (b-a)):=by
 cases s with
 | mk d =>
  simp only[jA];apply ByteArray.ext
  simp only[ByteArray.data_extract];rw[<-Array.toList_inj];simp[Array.toList_extract,List.extract_eq_take_drop]
end Bl
end Go.Proofs.YtiifhfmekbhlnaaGreat
namespace Go.Proofs.YtiifhfmekbhlnaaGreat
open RowKit
variable {α:Type}
theorem Row.drew {E:fY α}{w:World}{B:Nat}{e:TypeId}{v:Value}{ls:List α}(h:Row E w B e v ls)(q):Row E (w.drewN q) B e v ls:=h
end Go.Proofs.YtiifhfmekbhlnaaGreat
namespace Go.Proofs.YtiifhfmekbhlnaaGreat
open ChangeShapes WideShapes ChangeAt RowKit Deep It
theorem At.setRow {α:Type}{E:fY α}{S:Nat->Prop}{w:World}{v:Value}{l:List α}(h:At E S w v l){g:Nat}(hp:¬ S g)(u):At E S (w.setRow g u) v l :=
 h.gJ (by simp[World.setRow]) λb a _=>⟨setRow_other w g b u (λe=>hp (e ▸ a)),a⟩
end Go.Proofs.YtiifhfmekbhlnaaGreat
namespace Go.Proofs.YtiifhfmekbhlnaaGreat
open RowKit
variable {α:Type} {P:Program}
theorem Kp.alloc {Bx:Nat}{W:World}(hb:gz Bx W)(o):Kp Bx W (W.alloc o):=Kp.still hb (MU W o none)
end Go.Proofs.YtiifhfmekbhlnaaGreat
namespace Go.Proofs.YtiifhfmekbhlnaaGreat
namespace It
theorem zI {g:Int}(hg:1<=g/\g<=1099511627776):one (gone g)=true:=by
 rw[gone,zx hg (At.cG.2 (.inl ⟨rfl,rfl,rfl,rfl⟩))];rfl
theorem wS:right new=true:=qd
theorem Hs {T:List cL}(h:right T=true)(a b):cM T a b=if names T a b then 0 else 401:=by unfold cM;rw[MC h]
end It
end Go.Proofs.YtiifhfmekbhlnaaGreat
namespace Go.Proofs.YtiifhfmekbhlnaaGreat.Os
open RowKit
namespace Op
theorem xb {l:List dP}(h:right 0 l=true){i j:Nat}{x y:dP}(hx:l[i]?=some x)(hy:l[j]?=some y)(he:x.1=y.1):x=y:=by
 have a:∀ (l:List dP) (t:Int),right t l=true->∀ (i j:Nat) (x y:dP),i<j->l[i]?=some x->l[j]?=some y->x.1<y.1:=by
  intro l
  induction l with
  | nil=>intro t _ i j x y _ hx;simp at hx
  | cons z r ih =>
   intro t h i j x y c hx hy;simp[right]at h
   cases j with
   | zero=>omega
   | succ j =>
    cases i with
    | zero =>
     simp at hx;subst hx;have:=lW r _ h.2 j y (by simpa using hy);omega
    | succ i=>exact ih _ h.2 i j x y qo (by simpa using hx) (by simpa using hy)
 rcases Nat.lt_trichotomy i j with b | b | b
 ·have:=a l 0 h i j x y b hx hy;omega
 ·subst b;rw[hx]at hy
  cases hy
  rfl
 ·have:=a l 0 h j i y x b hy hx;omega
theorem Ec {l:List dP}{j:Nat}(h:j<least 0 l):∃ x,l[j]?=some x/\x.1=(j:Int):=by
 obtain⟨x,a,b⟩:=(oJ l 0).2.2.1 j qo;exact⟨x,a,by rw[b];congr 1;omega⟩
theorem A7 {l:List dP}(hr:right 0 l=true){j:Nat}{x:dP}(h:least 0 l<=j)(hx:l[j]?=some x):(least 0 l:Int)<x.1:=by
 have a:=(lW l 0 hr j x hx).1
 by_cases e:j=least 0 l
 ·have:=(oJ l 0).2.2.2 x (by rw[Nat.sub_zero,<-e];exact hx);omega
 ·omega
theorem Kl {l:List dP}{x:dP}{j:Nat}(hj:j<least 0 l)(hx:l[j]?=some x):x.1=(j:Int):=by
 obtain⟨y,a,b⟩:=Ec hj;rw[hx]at a
 cases a
 exact b
theorem n5 {l:List dP}(hr:right 0 l=true){c fd:Int}{x:dP}(h:l.find? (js c fd)=some x):gP l [x]=l.filter λy=>!(js c fd y):=by
 have a:=List.find?_some h;have b:=Pe h;unfold gP;refine OA λy g=>?_
 simp only[List.mem_singleton]
 by_cases e:y=x
 ·subst e;simp[a]
 ·have:js c fd y=false:=by
   cases hy':js c fd y
   ·rfl
   ·refine absurd ?_ e;obtain⟨i,d⟩:=M1.1 b;obtain⟨j,f⟩:=M1.1 g;simp[js]at a hy';exact xb hr f d qo
  simp[e,this]
theorem Fq {l:List dP}(hr:right 0 l=true){c fd:Int}{x y:dP}(hx:x∈l)(hy:y∈l)(h1:js c fd x=true)(h2:js c fd y=true):x=y:=by
 obtain⟨i,a⟩:=M1.1 hx;obtain⟨j,b⟩:=M1.1 hy;simp[js]at h1 h2;exact xb hr a b qo
end Op
end Go.Proofs.YtiifhfmekbhlnaaGreat.Os
namespace Go.Proofs.YtiifhfmekbhlnaaGreat.Os
open ChangeShapes WideShapes ChangeAt RowKit Deep
theorem laidOut:laidOutB Tryz.prog=true:=qk
theorem own:ownKnob Tryz.prog.godebug=none:=qk
end Go.Proofs.YtiifhfmekbhlnaaGreat.Os
namespace Go.Proofs.YtiifhfmekbhlnaaGreat
open ChangeShapes WideShapes ChangeAt RowKit Deep
namespace Fo
theorem JB:fE [] 0:=⟨qd,λi h=>by simp at h,List.nodup_nil⟩
theorem uI {l:List eA}{next:Int}{s:ByteArray}(h:fE l next)(k:Nm.ok s):ask l next s=0:=(mh (jP h)).trans (Nm.jP k)
theorem bb:called sb eb=true:=by simp[called]
end Fo
theorem small (x:eA)(l:List eA) (h:x.1.size<=32/\∀ y∈l,y.1.size<=32):∀ y∈x::l,y.1.size<=maxLen:=λy a=>by
 rcases Ni.1 a with rfl | a
 ·exact MS h.1 qd
 ·exact MS (h.2 y a) qd
namespace Fo
theorem Bi {s:ByteArray}{x:eA}:called s x=true ↔ x.1=s:=by
 unfold called;rw[beq_iff_eq,ND,ND];constructor
 ·intro h
  obtain⟨⟨⟨a⟩⟩,c⟩:=x;obtain⟨⟨b⟩⟩:=s;simp only at h;simp[h]
 ·rintro rfl
  rfl
end Fo
end Go.Proofs.YtiifhfmekbhlnaaGreat
namespace Go.Proofs.YtiifhfmekbhlnaaGreat.Es
open RowKit
abbrev fB:=Int × Int × ByteArray
def ES:fY fB:=⟨3,λx=>[.int .i64 x.1,.int .i64 x.2.1,.string x.2.2],λ_=>rfl,λx u hu=>by
 simp at hu;rcases hu with rfl | rfl | rfl <;> rfl⟩
namespace Se
def Cl (c:Int):Prop:=0<=c/\c<=1099511627776
instance (c:Int):Decidable (Cl c):=by unfold Cl;infer_instance
def Rq (r:Int):Prop:=1<=r/\r<=1099511627776
instance (r:Int):Decidable (Rq r):=by unfold Rq;infer_instance
def lL (t:Int) (x:fB):Prop:=(t<=x.1/\x.1<=1099511627776)/\Rq x.2.1/\x.2.2.size<=8192
instance (t:Int) (x:fB):Decidable (lL t x):=by unfold lL;infer_instance
def right (t:Int):List fB->Bool
 | []=>true
 | x::r=>decide (lL t x)&&right (x.1+1) r
def ok (l:List fB):Bool:=decide (l.length<=6)&&right 0 l
theorem gR {α:Type}{l:List α}{k:Nat}{x:α}(h:l[k]?=some x):l.drop k=x::l.drop (k+1):=by
 obtain⟨a,rfl⟩:=MN.1 h;exact Ob a
theorem rP {l:List fB}{k:Nat}{x:fB}{t:Int}(h:l[k]?=some x)(hg:lL t x):right t (l.drop k)=right (x.1+1) (l.drop (k+1)):=by
 rw[gR h];simp[right,hg]
theorem uf {l:List fB}{k:Nat}{x:fB}{t:Int}(h:l[k]?=some x)(hg:¬ lL t x):right t (l.drop k)=false:=by
 rw[gR h];simp[right,hg]
theorem se {l:List fB}{k:Nat}{t:Int}(h:k=l.length):right t (l.drop k)=true:=by
 rw[h,List.drop_length];rfl
theorem cG : ∀ (l : List fB) (t : Int),right t l=true ↔ (∀ x ∈ l,lL t x) ∧ l.Pairwise (λx y => x.1<y.1)
 | [],t=>by simp[right]
 | y::r,t => by
  rw[right,MR,OX,cG r,N9];constructor
  ·rintro ⟨h1,h2,h3⟩
   refine⟨λx hx=>?_,λx hx=>?_,h3⟩
   ·rcases Ni.1 hx with rfl | hx
    ·exact h1
    ·have := h2 x hx
     have h1':=h1.1.1;have h2':=this.1.1;exact⟨⟨qo,this.1.2⟩,this.2⟩
   ·have := (h2 x hx).1.1
    omega
  ·rintro ⟨h1,h2,h3⟩
   refine⟨h1 y qs,λx hx=>?_,h3⟩;have:=h1 x (by simp[hx]);have h4:=h2 x hx;exact⟨⟨qo,this.1.2⟩,this.2⟩
abbrev gG (l:List fB):Prop:=l.Pairwise (λx y=>x.1 < y.1)
theorem vp (l):ok l=true ↔ l.length<=6/\(∀ x∈l,lL 0 x)/\gG l:=by
 unfold ok;rw[MR,OX,cG]
theorem fh {l:List fB}(h:ok l=true):gG l:=((vp l).1 h).2.2
theorem kl {l:List fB}(h:ok l=true):l.length<=6:=((vp l).1 h).1
def gy:List fB->Int->Nat
 | [],_=>0
 | x::r,c=>if c<=x.1 then 0 else gy r c+1
theorem yG:∀ (l:List fB) (c:Int),gy l c<=l.length
 | [],_=>MI _
 | x::r,c => by
  unfold gy;split
  ·omega
  ·have := yG r c
   simp only[List.length_cons];omega
theorem xG:∀ (l:List fB) (c:Int),gG l->∀ (k:Nat) (x:fB),l[k]?=some x->(c<=x.1 ↔ gy l c<=k)
 | [],_,_,k,x,h=>by simp at h
 | y::r,c,hs,0,x,h => by
  simp at h;subst h;unfold gy
  by_cases hc:c<=y.1
  ·simp[hc]
  ·simp[hc]
 | y::r,c,hs,k+1,x,h => by
  have hp:=N9.1 hs;have hx:r[k]?=some x:=by simpa using h
  have ih:=xG r c hp.2 k x hx;have hyx:=hp.1 x (MG hx);unfold gy
  by_cases hc:c<=y.1
  ·simp only[hc,if_true]
   omega
  ·simp only[hc,if_false]
   omega
theorem tP : ∀ (l : List fB) (c : Int),gG l → l.take (gy l c)=l.filter (λx => decide (x.1<c))
 | [],_,_=>rfl
 | y::r,c,hs => by
  have hp:=N9.1 hs;unfold gy
  by_cases hc:c<=y.1
  ·rw[MC hc,List.take_zero]
   symm;refine List.filter_eq_nil_iff.2 λx hx=>?_
   rcases Ni.1 hx with rfl | hx
   ·simp;omega
   ·have := hp.1 x hx
    simp;omega
  ·rw[ME hc,List.take_succ_cons,tP r c hp.2,List.filter_cons,MC qt]
theorem vh : ∀ (l : List fB) (c : Int),gG l → l.drop (gy l c)=l.filter (λx => decide (c ≤ x.1))
 | [],_,_=>rfl
 | y::r,c,hs => by
  have hp:=N9.1 hs;unfold gy
  by_cases hc:c<=y.1
  ·rw[MC hc,List.drop_zero]
   symm;refine Om.2 λx hx=>?_
   rcases Ni.1 hx with rfl | hx
   ·simp;omega
   ·have := hp.1 x hx
    simp;omega
  ·rw[ME hc,List.drop_succ_cons,vh r c hp.2,List.filter_cons,ME qt]
def gu (l:List fB) (c:Int):Option fB:=l.find? λx=>x.1==c
theorem jf {l:List fB}{c:Int}{x:fB}(h:gu l c=some x):x∈l/\x.1=c:=by
 have a:=List.find?_some h;exact⟨Pe h,by simpa using a⟩
theorem ox {l:List fB}{c:Int}(h:gu l c=none):∀ x∈l,x.1≠c:=λx a=>by
 have:=List.find?_eq_none.1 h x a;simpa using this
theorem Ct {l : List fB}(hs : gG l){x y : fB}(hx : x ∈ l)(hy : y ∈ l)(h : x.1=y.1) : x=y := by
 induction l with
 | nil=>cases hx
 | cons z r ih =>
  have c:=N9.1 hs;rcases Ni.1 hx with f | b
  ·rcases Ni.1 hy with d | a
   ·rw[f,d]
   ·have := c.1 y a
    rw[f]at h;omega
  ·rcases Ni.1 hy with d | a
   ·have := c.1 x b
    rw[d]at h;omega
   ·exact ih c.2 b a
theorem IW {l:List fB}(hs:gG l){x:fB}(hx:x∈l):gu l x.1=some x:=by
 cases h:gu l x.1 with
 | none=>exact absurd rfl (ox h x hx)
 | some y =>
  obtain⟨a,b⟩:=jf h;rw[Ct hs a hx b]
theorem mw {l:List fB} {c:Int} (hs:gG l) {x:fB} (h:gu l c=some x):l[gy l c]?=some x:=by
 obtain⟨g,rfl⟩:=jf h;obtain⟨k,a⟩:=M1.1 g;have i:=(xG l x.1 hs k x a).1 (Ng _);have b:=(MN.1 a).1;have d:l[gy l x.1]?=some (l[gy l x.1]'qo):=MF _;have j:=(xG l x.1 hs _ _ d).2 (MI _)
 by_cases e:gy l x.1=k
 ·rw[e];exact a
 ·have f := List.pairwise_iff_getElem.1 hs (gy l x.1) k qo b qo
  rw[(MN.1 a).2]at f;omega
theorem Fc {l:List fB}{c:Int}(h:gu l c=none){x:fB}(hx:l[gy l c]?=some x):x.1≠c:=ox h x (MG hx)
theorem yW {l:List fB}{c:Int}(hs:gG l){x:fB}(h:gu l c=some x):l.drop (gy l c+1)=l.filter (λy=>decide (c<y.1)):=by
 have a:=mw hs h;have b:=vh l c hs;rw[gR a]at b;have g:=(jf h).2;have e:l.filter (λy=>decide (c<y.1))=(l.filter (λy=>decide (c<=y.1))).filter (λy=>decide (c<y.1)):=by
  rw[List.filter_filter];refine OA λy _=>?_
  rw[Pk];simp;omega
 rw[e,<-b,List.filter_cons,ME qt];symm;refine Om.2 λy f=>?_
 have d:gG (x::l.drop (gy l c+1)):=by rw[<-gR a];exact hs.sublist (List.drop_sublist _ _)
 have:=(N9.1 d).1 y f;simp;omega
theorem Ex {l:List fB}{c:Int}(hs:gG l)(h:gu l c=none):l.drop (gy l c)=l.filter (λy=>decide (c<y.1)):=by
 rw[vh l c hs];refine OA λy b=>?_
 have:=ox h y b;rw[Pk];simp;omega
def jx (l:List fB) (c:Int):Int:=if ok l=true then (if Cl c then 0 else 1) else 4
def fu (l:List fB) (c r:Int):Int:=if jx l c=0 then (if Rq r then 0 else 1) else jx l c
theorem CM (l)(c):(jx l c=0/\ok l=true/\Cl c)\/(jx l c=1/\ok l=true/\¬ Cl c)\/(jx l c=4/\ok l=false):=by
 unfold jx
 cases h:ok l
 ·exact .inr (.inr ⟨qs,rfl⟩)
 ·by_cases hc : Cl c
  ·exact .inl ⟨by simp[hc],rfl,hc⟩
  ·exact .inr (.inl ⟨by simp[hc],rfl,hc⟩)
theorem tH (l)(c r):(fu l c r=0/\jx l c=0/\ok l=true/\Cl c/\Rq r)\/(fu l c r=1/\jx l c=0/\ok l=true/\Cl c/\¬ Rq r)\/(fu l c r=jx l c/\jx l c≠0):=by
 rcases CM l c with⟨h,b,d⟩ | ⟨h,b,d⟩ | ⟨h,b⟩
 ·by_cases hr : Rq r
  ·exact .inl ⟨by unfold fu;rw[MC h,MC hr],h,b,d,hr⟩
  ·exact .inr (.inl ⟨by unfold fu;rw[MC h,ME hr],h,b,d,hr⟩)
 ·exact .inr (.inr ⟨by unfold fu;rw[ME qo],qo⟩)
 ·exact .inr (.inr ⟨by unfold fu;rw[ME qo],qo⟩)
def fp (l:List fB) (c r:Int):Int:=if fu l c r=0 then (match gu l c with | none=>if l.length=6 then 4 else 1 | some x=>if x.2.1<r then 1 else if r<x.2.1 then 3 else 2) else 0
def told (l:List fB) (c r:Int):ByteArray:=if fu l c r=0 then (match gu l c with | none=>⟨#[]⟩ | some x=>if r=x.2.1 then x.2.2 else ⟨#[]⟩) else ⟨#[]⟩
theorem yY {l:List fB}{c r:Int}(h:fu l c r≠0):fp l c r=0/\told l c r=⟨#[]⟩:=⟨ME h,ME h⟩
theorem kO {l:List fB}{c r:Int}(h:fu l c r=0)(hs:gu l c=none):fp l c r=(if l.length=6 then 4 else 1)/\told l c r=⟨#[]⟩:=by
 unfold fp told;rw[MC h,MC h,hs];exact⟨rfl,rfl⟩
theorem kJ {l:List fB}{c r:Int}{x:fB}(h:fu l c r=0)(hs:gu l c=some x):fp l c r=(if x.2.1<r then 1 else if r<x.2.1 then 3 else 2)/\told l c r=(if r=x.2.1 then x.2.2 else ⟨#[]⟩):=by
 unfold fp told;rw[MC h,MC h,hs];exact⟨rfl,rfl⟩
def dM (l:List fB) (c r:Int) (s:ByteArray):Int:=if fu l c r=0 then (if 8192<s.size then 2 else if fp l c r=4 then 412 else if fp l c r=1 then 0 else 7) else fu l c r
def put (l:List fB) (c r:Int) (s:ByteArray):List fB:=if dM l c r s=0 then l.filter (λx=>decide (x.1<c))++[(c,r,s)]++l.filter (λx=>decide (c<x.1)) else []
def eX (l:List fB) (c:Int):Int:=if jx l c=0 then (match gu l c with | none=>6 | some _=>0) else jx l c
theorem yS {l:List fB}{c:Int}(hs:gG l) {x:fB} (h:gu l c=some x):l.filter (λx=>!(x.1==c))=l.take (gy l c)++l.drop (gy l c+1):=by
 have e:l=l.take (gy l c)++([x]++l.drop (gy l c+1)):=by
  rw[List.singleton_append,<-gR (mw hs h),Nj]
 have b:=(jf h).2;have d:(l.take (gy l c)).filter (λx=>!(x.1==c))=l.take (gy l c):=Om.2 λy a=>by
  rw[tP l c hs]at a;have:=(NK.1 a).2;simp at this |-;omega
 have f:(l.drop (gy l c+1)).filter (λx=>!(x.1==c))=l.drop (gy l c+1):=Om.2 λy a=>by
  rw[yW hs h]at a;have:=(NK.1 a).2;simp at this |-;omega
 generalize hL:l.take (gy l c)=A at *;generalize l.drop (gy l c+1)=B at *;rw[e,Ov,Ov,d,f];simp[b]
theorem wY (l )(c r )(s ) : (dM l c r s=0 ∧ fu l c r=0 ∧ s.size ≤ 8192 ∧ fp l c r=1) \/ (dM l c r s=2 ∧ fu l c r=0 ∧ 8192<s.size) \/ (dM l c r s=412 ∧ fu l c r=0 ∧ s.size ≤ 8192 ∧ fp l c r=4) \/ (dM l c r s=7 ∧ fu l c r=0 ∧ s.size ≤ 8192 ∧ fp l c r≠4 ∧ fp l c r≠1) \/ (dM l c r s=fu l c r ∧ fu l c r≠0) := by
 by_cases h:fu l c r=0
 ·by_cases h1 : 8192<s.size
  ·exact .inr (.inl ⟨by unfold dM;rw[MC h,MC h1],h,h1⟩)
  ·by_cases h2 : fp l c r=4
   ·exact .inr (.inr (.inl ⟨by unfold dM;rw[MC h,ME h1,MC h2],h,qo,h2⟩))
   ·by_cases h3 : fp l c r=1
    ·exact .inl ⟨by unfold dM;rw[MC h,ME h1,ME h2,MC h3],h,qo,h3⟩
    ·exact .inr (.inr (.inr (.inl ⟨by unfold dM;rw[MC h,ME h1,ME h2,ME h3],h,qo,h2,h3⟩)))
 ·exact .inr (.inr (.inr (.inr ⟨by unfold dM;rw[ME h],h⟩)))
theorem xB {l:List fB}{c r:Int}{s:ByteArray}(h:dM l c r s=0):fu l c r=0/\s.size<=8192/\fp l c r=1:=by
 rcases wY l c r s with⟨_,a,b,d⟩ | ⟨a,_⟩ | ⟨a,_⟩ | ⟨a,_⟩ | ⟨a,b⟩
 ·exact⟨a,b,d⟩
 all_goals omega
end Se
end Go.Proofs.YtiifhfmekbhlnaaGreat.Es
namespace Go.Proofs.YtiifhfmekbhlnaaGreat.Ks
namespace Pl
theorem Az (m):digits 0 m=[]:=rfl
theorem gM (k m):(digits k m).length=k:=by simp[digits]
theorem nN (k m):digits (k+1) m=UInt8.ofNat (m / 256 ^ k % 256)::digits k m:=by
 unfold digits;rw[List.range_succ_eq_map,Nx,List.map_map]
 congr 1
 apply Pg
 intro j a;have:=O8.1 a;simp only[Function.comp,Nat.succ_eq_add_one];rw[show k+1-1-(j+1)=k-1-j from by omega]
theorem gk (s):jA s.data.toList=s:=by cases s;simp[jA]
theorem kb (l:List UInt8):(jA l).data.toList=l:=by simp[jA]
theorem iP (l:List UInt8):(jA l).size=l.length:=by simp[jA,ByteArray.size]
def ja (n size:Int):Int:=if gl n size then 1 else 0
theorem Gf (n:Int)(k:Nat):(((n.toNat / 256 ^ k:Nat):Int)) / 256=((n.toNat / 256 ^ (k+1):Nat):Int):=by
 rw[Nat.pow_succ,<-Nat.div_div_eq_div_mul];omega
theorem Bb (l:List UInt8)(b:UInt8):numOf (l++[b])=256*numOf l+b.toNat:=by simp[numOf]
theorem qN (l:List UInt8):∀ a:Nat,l.foldl (λn b=>256*n+b.toNat) a<(a+1)*256 ^ l.length:=by
 induction l with
 | nil=>intro a;simp
 | cons b l ih =>
  intro a;have h:=ih (256*a+b.toNat);have c:=b.toNat_lt;rw[O0,MZ];have d:(256*a+b.toNat+1)*256 ^ l.length<=(256*(a+1))*256 ^ l.length:=Og _ (by omega);have f:(256*(a+1))*256 ^ l.length=(a+1)*256 ^ (l.length+1):=by rw[Nat.pow_succ,OY 256 (a+1),Nat.mul_assoc,OY 256]
  omega
theorem Ga (l:List UInt8):numOf l<256 ^ l.length:=by have:=qN l 0;simpa [numOf]using this
def fO (s:ByteArray):Int:=if sX s then 1 else if tm s then 4 else 0
end Pl
namespace Pl
def iH (last:Int) (x:Int × ByteArray):Int:=if x.1<1\/255<x.1 then 1 else if 65535<x.2.size then 2 else if x.1<last then 11 else 0
def dd:Int->List (Int × ByteArray)->Int
 | _,[]=>0
 | last,x::l=>if iH last x=0 then dd x.1 l else iH last x
def db (l:List (Int × ByteArray)):ByteArray:=if dd 1 l=0 then jA (encs l) else jA []
def iI (last:Int) (l:List (Int × ByteArray)) (k:Nat):Int:=if k=0 then last else (l.getD (k-1) (0,.empty)).1
def yq (last:Int) (l:List (Int × ByteArray)) (k:Nat):Prop:=∀ i,i<k->i<l.length->iH (iI last l i) (l.getD i (0,.empty))=0
theorem nB (last)(x:Int × ByteArray)(l)(k):iI last (x::l) (k+1)=iI x.1 l k:=by
 unfold iI
 match k with
 | 0=>simp
 | k+1=>simp
theorem uy:∀ (l:List (Int × ByteArray)) (last:Int) (k:Nat),k<l.length->yq last l k->iH (iI last l k) (l.getD k (0,.empty))≠0->dd last l=iH (iI last l k) (l.getD k (0,.empty))
 | [],_,k,hk,_,_=>by simp at hk
 | x::l,last,0,_,_,hb=>by
  simp only[iI,List.getD_cons_zero,if_true]at hb |-;simp only[dd,if_neg hb]
 | x::l,last,k+1,hk,eE,hb=>by
  have h0:=eE 0 qo qs;simp only[iI,List.getD_cons_zero,if_true]at h0;rw[nB,OR]at hb |-;simp only[dd,if_pos h0];refine uy l x.1 k (by simpa using hk) (λi hi hl=>?_) hb;have:=eE (i+1) qo (by simpa using hl)
  rwa [nB,OR]at this
theorem u5:∀ (l:List (Int × ByteArray)) (last:Int),yq last l l.length->dd last l=0
 | [],_,_=>rfl
 | x::l,last,eE=>by
  have h0:=eE 0 qs qs;simp only[iI,List.getD_cons_zero,if_true]at h0;simp only[dd,if_pos h0];refine u5 l x.1 (λi hi hl=>?_);have:=eE (i+1) (by simpa using hi) (by simpa using hl)
  rwa [nB,OR]at this
theorem Dm {last:Int}{l:List (Int × ByteArray)}{k:Nat}(h:yq last l k)(hk:iH (iI last l k) (l.getD k (0,.empty))=0):yq last l (k+1):=by
 intro i b a
 by_cases e:i=k
 ·subst e;exact hk
 ·exact h i qo a
theorem zt {last:Int}{l:List (Int × ByteArray)}{k:Nat}{x:Int × ByteArray}(h:l.getD k (0,.empty)=x):iI last l (k+1)=x.1:=by
 simp only[iI,Nat.add_sub_cancel,h];simp
theorem qe {l:List (Int × ByteArray)}{k:Nat}{e la:Int}{x:Int × ByteArray}(hk:k<l.length)(eE:yq 1 l k)(hl:iI 1 l k=la)(hx:l.getD k (0,.empty)=x)(hb:iH la x=e)(he:e≠0):db l=jA []/\dd 1 l=e:=by
 have h:=uy l 1 k hk eE (by rw[hl,hx,hb];exact he);rw[hl,hx,hb]at h;exact⟨by rw[db,h,ME he],h⟩
theorem Dk {l:List (Int × ByteArray)}(eE:yq 1 l l.length):db l=jA (encs l)/\dd 1 l=0:=by
 have h:=u5 l 1 eE;exact⟨by rw[db,h,MC rfl],h⟩
def kY (l:List UInt8):List Value:=l.map λb=>.int .u8 (b.toNat:Int)
theorem oY (a b:List UInt8):kY (a++b)=kY a++kY b:=by simp[kY]
theorem xW (s):byteCells s=kY s.data.toList:=rfl
theorem vE {l:List (Int × ByteArray)}{k:Nat}{x:Int × ByteArray}(hk:k<l.length)(hx:l.getD k (0,.empty)=x):encs (l.take (k+1))=encs (l.take k)++jH x:=by
 have:l.take (k+1)=l.take k++[x]:=by
  rw[Np hk];simp[List.getD,hk]at hx;rw[hx]
 rw[this];simp[encs]
theorem yM (l)(k):(encs (l.take k)).length<=(encs l).length:=by
 have e:encs (l.take k++l.drop k)=encs (l.take k)++encs (l.drop k):=by unfold encs;rw[List.flatMap_append]
 rw[Nj]at e;rw[e];simp
theorem iQ (x:Int × ByteArray):(jH x).length=3+x.2.size:=by
 simp only[jH,List.length_append,List.length_cons,List.length_nil,Array.length_toList];rfl
theorem xP (t)(s)(h1:1<=t)(h2:t<=255)(h3:s.size<=65535) :
  kY (jH (t,s))=[.int .u8 t,.int .u8 ((s.size:Int) / 256),.int .u8 ((s.size:Int) % 256)]++byteCells s:=by
 have a:(UInt8.ofNat t.toNat).toNat=t.toNat:=by rw[Od];omega
 have b:(UInt8.ofNat (s.size / 256)).toNat=s.size / 256:=by rw[Od];omega
 have c:(UInt8.ofNat (s.size % 256)).toNat=s.size % 256:=by rw[Od];omega
 rw[jH,oY,<-xW];simp only[kY,List.map_cons,List.map_nil,a,b,c]
 congr 2
 congr 1
 omega
end Pl
namespace Pl
def lA (l:List UInt8):Int:=(l.getD 0 0).toNat
def lenOf (l:List UInt8):Nat:=256*(l.getD 1 0).toNat+(l.getD 2 0).toNat
def gS (last:Int) (l:List UInt8):Int:=if l.length<3 then 10 else if lA l=0 then 4 else if lA l<last then 11 else if l.length-3<lenOf l then 10 else 0
def jm (l:List UInt8):Int × ByteArray:=(lA l,jA ((l.drop 3).take (lenOf l)))
def parse:Nat->Int->List UInt8->List (Int × ByteArray) × Int
 | 0,_,_=>([],0)
 | f+1,last,l=>if l=[] then ([],0) else if gS last l=0 then join [jm l] (parse f (lA l) (l.drop (3+lenOf l))) else ([],gS last l)
def dA (l:List UInt8):List (Int × ByteArray):=(parse l.length 1 l).1
def dX (l:List UInt8):Int:=(parse l.length 1 l).2
theorem join_join (d e)(r:List (Int × ByteArray) × Int):join d (join e r)=join (d++e) r:=by
 unfold join
 by_cases h:r.2=0
 ·simp[h]
 ·simp[h]
theorem wx (f)(last):parse f last []=([],0):=by
 cases f <;> simp[parse]
def Mid (l0:List UInt8) (done:List (Int × ByteArray)) (last:Int) (rest:List UInt8):Prop :=
 done.length*3+rest.length<=l0.length/\∃ f,rest.length<=f/\parse l0.length 1 l0=join done (parse f last rest)
theorem join_nil (r:List (Int × ByteArray) × Int)(h:r.2≠0->r.1=[]):join [] r=r:=by
 unfold join
 by_cases h0:r.2=0
 ·rw[MC h0,Nt,<-h0]
 ·rw[ME h0,<-h h0]
theorem vP:∀ (f:Nat) (last:Int) (l:List UInt8),(parse f last l).2≠0->(parse f last l).1=[]
 | 0,_,_,h=>by simp[parse]at h
 | f+1,last,l,h => by
  unfold parse at h |-
  by_cases h1:l=[]
  ·simp[h1]at h
  ·simp only[if_neg h1]at h |-
   by_cases h2:gS last l=0
   ·simp only[if_pos h2]at h |-;unfold join at h |-
    by_cases h3:(parse f (lA l) (l.drop (3+lenOf l))).2=0
    ·simp[h3]at h
    ·simp[h3]
   ·simp[h2]
theorem Mid.start (l:List UInt8):Mid l [] 1 l :=
 ⟨qs,l.length,qn,(join_nil _ (vP _ _ _)).symm⟩
theorem Mid.finish {l0:List UInt8}{done:List (Int × ByteArray)}{last:Int}(h:Mid l0 done last []):dA l0=done/\dX l0=0:=by
 obtain⟨_,f,_,e⟩:=h;rw[wx]at e;unfold dA dX;rw[e];simp[join]
theorem Mid.fail {l0:List UInt8}{done:List (Int × ByteArray)}{last:Int}{rest:List UInt8}{e:Int}(h:Mid l0 done last rest)(hr:rest≠[])(hs:gS last rest=e)(he:e≠0):dA l0=[]/\dX l0=e:=by
 obtain⟨_,f,a,b⟩:=h
 match f,a with
 | 0,a=>exact absurd (MX qo) hr
 | f+1,_ =>
  have c:parse (f+1) last rest=([],e):=by
   unfold parse;rw[ME hr,hs,ME he]
  rw[c]at b;unfold dA dX;rw[b];simp[join,he]
theorem Mid.step {l0:List UInt8}{done:List (Int × ByteArray)}{last:Int}{rest:List UInt8}(h:Mid l0 done last rest)(hr:rest≠[])(hs:gS last rest=0) :
  Mid l0 (done++[jm rest]) (lA rest) (rest.drop (3+lenOf rest)):=by
 obtain⟨d,f,a,b⟩:=h
 match f,a with
 | 0,a=>exact absurd (MX qo) hr
 | f+1,a =>
  have c:¬ rest.length<3:=by
   intro h;simp[gS,h]at hs
  refine⟨by simp only[List.length_append,List.length_cons,List.length_nil,List.length_drop];omega,f,by simp only[List.length_drop];omega,?_⟩;rw[b,<-join_join]
  congr 1
  conv=>lhs;unfold parse
  rw[ME hr,MC hs]
theorem ya (s:ByteArray) (i:Nat) (h:i<s.size):s.data.toList.getD i 0=s[i]:=by
 have a:i<s.data.toList.length:=by simpa using h
 simp only[List.getD,List.getElem?_eq_getElem a,Option.getD_some];simp;rfl
theorem fX (s:ByteArray)(a b:Nat):s.extract a b=jA ((s.data.toList.drop a).take (b-a)):=by
 apply ByteArray.ext
 apply Array.ext'
 rw[ByteArray.data_extract];simp[jA,List.extract]
end Pl
namespace Pl
theorem BQ {last:Int}{x:Int × ByteArray}(h:iH last x=0):1<=x.1/\x.1<=255/\x.2.size<=65535/\last<=x.1:=by
 unfold iH at h;split at h
 ·cases h
 ·split at h
  ·cases h
  ·split at h
   ·cases h
   ·omega
theorem vw:∀ (l:List (Int × ByteArray)) (last:Int) (f:Nat),dd last l=0->(encs l).length<=f->parse f last (encs l)=(l,0)
 | [],last,f,_,_=>wx f last
 | x::l,last,f,hp,hf => by
  have hb:iH last x=0:=by
   unfold dd at hp;split at hp
   ·assumption
   ·exact hp
  have hp':dd x.1 l=0:=by
   unfold dd at hp
   rwa [MC hb]at hp
  obtain⟨h1,h2,h3,h4⟩:=BQ hb;obtain⟨t,s⟩:=x;simp only at h1 h2 h3 h4 hp';have e:encs ((t,s)::l)=UInt8.ofNat t.toNat::UInt8.ofNat (s.size / 256)::UInt8.ofNat (s.size % 256)::(s.data.toList++encs l):=by simp[encs,jH]
  have hsl:s.data.toList.length=s.size:=qs
  have hlen:(encs ((t,s)::l)).length=3+s.size+(encs l).length:=by
   rw[e];simp only[List.length_cons,List.length_append,hsl];omega
  rw[hlen]at hf;have et:lA (encs ((t,s)::l))=t:=by
   rw[e,lA,OQ,Od];omega
  have el:lenOf (encs ((t,s)::l))=s.size:=by
   rw[e,lenOf,OR,OQ,OR,OR,OQ,Od,Od];omega
  have ef:jm (encs ((t,s)::l))=(t,s):=by
   unfold jm;rw[et,el,e];simp only[List.drop_succ_cons,List.drop_zero];rw[OU qo,MY qo,gk]
  have ed:(encs ((t,s)::l)).drop (3+lenOf (encs ((t,s)::l)))=encs l:=by
   rw[el,<-List.drop_drop,e];simp only[List.drop_succ_cons,List.drop_zero];rw[<-hsl,List.drop_left]
  have es:gS last (encs ((t,s)::l))=0:=by
   unfold gS;rw[et,el,hlen,ME qo,ME qo,ME qo,ME qo]
  match f,hf with
  | 0,hf=>omega
  | f+1,hf =>
   unfold parse;rw[ME (by rw[e];simp),MC es,ed,ef,et,vw l t f hp' qo];simp[join]
theorem Ax (l)(h:dd 1 l=0):dA (encs l)=l/\dX (encs l)=0:=by
 unfold dA dX;rw[vw l 1 _ h qn];exact⟨rfl,rfl⟩
end Pl
namespace Pl
theorem vO (b:UInt8)(l:List UInt8):numOf (b::l)<(b.toNat+1)*256 ^ l.length:=by
 have:=qN l b.toNat;simpa [numOf]using this
theorem o0 (l:List UInt8)(k)(h8:l.length<=8)(hh:l.length=8->(l.headD 0).toNat<128)(hk:k<l.length):numOf (l.take k)<36028797018963968:=by
 by_cases h7:k<=6
 ·have a := Ga (l.take k)
  have c:(l.take k).length=k:=qt
  rw[c]at a;have f:256 ^ k<=256 ^ 6:=Nat.pow_le_pow_right (by decide) h7;have h:(256:Nat) ^ 6<36028797018963968:=qd
  omega
 ·have d : k=7 := by omega
  subst d
  match l,h8,hh,hk with
  | b::r,h8,hh,hk =>
   have g:=hh (by simp at h8 hk |-;omega);have a:=vO b (r.take 6);have c:(r.take 6).length=6:=by simp at hk |-;omega
   rw[c]at a;simp only[List.headD_cons]at g;have f:(256:Nat) ^ 6=281474976710656:=qd
   rw[f]at a;show numOf (b::r.take 6)<_;omega
theorem Eh (s:ByteArray)(k:Nat) (h:k<s.size):s.data.toList.take (k+1)=s.data.toList.take k++[s[k]]:=by
 rw[Np (by simpa using h)];rfl
theorem nk (s:ByteArray) (k:Nat) (h:k<s.size):numOf (s.data.toList.take (k+1))=256*numOf (s.data.toList.take k)+s[k].toNat:=by
 rw[Eh s k h,Bb]
theorem vu (n:Nat) (h:n<9223372036854775808):IntKind.i64.wrap (n:Int)=(n:Int):=by
 have e:(n:Int) % 2 ^ 64=n:=Int.emod_eq_of_lt (by omega) (by omega);simp only[IntKind.wrap,IntKind.bits,IntKind.signed,e];rw[ME];simp;omega
theorem Da (x:Nat) (b:UInt8) (hx:x<36028797018963968):bits .or .i64 ((x:Int)*256) (b.toNat:Int)=256*(x:Int)+(b.toNat:Int):=by
 have a:=b.toNat_lt;have e:(x:Int)*256=((256*x:Nat):Int):=by omega
 rw[e];show IntKind.i64.wrap ((BitVec.ofInt 64 ((256*x:Nat):Int) ||| BitVec.ofInt 64 ((b.toNat:Nat):Int)).toNat:Int)=_;rw[BitVec.toNat_or,ofInt_u64 (256*x) (by omega),ofInt_u64 b.toNat qo,nat_join 8 (256*x) b.toNat qo qo,vu _ qo];omega
end Pl
namespace Ak
def db (c:Cl):ByteArray:=if right c then Pl.jA (Pl.encs (fields c)) else ⟨#[]⟩
def dd (c:Cl):Int:=if right c then 0 else 413
theorem FN {n:Int}{z:Nat}(h0:0<=n)(hz:1<=z)(h8:z<=8)(h:n.toNat<256 ^ z):Pl.cW n z=Pl.jA (Pl.digits z n.toNat):=by
 have a:Pl.gl n z=false:=by
  simp only[Pl.gl,Bool.or_eq_false_iff,decide_eq_false_iff_not,Int.toNat_natCast];refine⟨qo,?_⟩;rw[Nat.div_eq_of_lt h];simp
 simp[Pl.cW,a]
theorem kX {n:Int}{z:Nat}(h0:0<=n)(hz:1<=z)(h8:z<=8)(h:n.toNat<256 ^ z):(Pl.cW n z).size=z:=by
 rw[FN h0 hz h8 h,Pl.iP,Pl.gM]
theorem rH (l:List UInt8):∀ a:Nat,l.foldl (λn b=>256*n+b.toNat) a=a*256 ^ l.length+Pl.numOf l:=by
 induction l with
 | nil=>intro a;simp[Pl.numOf]
 | cons b l ih =>
  intro a;have e:Pl.numOf (b::l)=(256*0+b.toNat)*256 ^ l.length+Pl.numOf l:=ih (256*0+b.toNat);rw[O0,ih,e,MZ,Nat.pow_succ,Nat.mul_zero,NS,O6,OY 256 a,Nat.mul_assoc,OY 256,NC]
theorem o8 (b:UInt8)(l:List UInt8):Pl.numOf (b::l)=b.toNat*256 ^ l.length+Pl.numOf l:=by
 have e:Pl.numOf (b::l)=l.foldl (λn b=>256*n+b.toNat) (256*0+b.toNat):=rfl;rw[e,rH,Nat.mul_zero,NS]
theorem kx (z):∀ m:Nat,Pl.numOf (Pl.digits z m)=m % 256 ^ z:=by
 induction z with
 | zero=>intro m;simp[Pl.digits,Pl.numOf,Nat.mod_one]
 | succ z ih =>
  intro m;have e:(UInt8.ofNat (m / 256 ^ z % 256)).toNat=m / 256 ^ z % 256:=by rw[Od];omega
  rw[Pl.nN,o8,ih,Pl.gM,e,Nat.pow_succ,Nat.mod_mul,OY (256 ^ z) (m / 256 ^ z % 256),Nat.add_comm]
theorem lC {n:Int}{z:Nat}(h0:0<=n)(hz:1<=z)(h7:z<=7) (h:n.toNat<256 ^ z):Pl.de (Pl.cW n z)=n:=by
 have a:=kX h0 hz (by omega) h;have b:Pl.sX (Pl.cW n z)=false:=by simp only[Pl.sX,a,decide_eq_false_iff_not];omega
 have c:Pl.tm (Pl.cW n z)=false:=by
  have:decide (z=8)=false:=MO (by omega);simp[Pl.tm,a,this]
 unfold Pl.de;rw[b,c,FN h0 hz qo h,Pl.kb,kx,Nat.mod_eq_of_lt h];simp;omega
def iC (s:ByteArray):Int:=if s.size=7 then Pl.de (s.extract 1 7) else 0
theorem FK {no gen:Int}(h:lN no gen):0<=no/\no.toNat<256 ^ 1/\0<=gen/\gen.toNat<256 ^ 6:=by
 obtain⟨⟨a,b⟩,c,d⟩:=h;exact⟨a,qo,c,qo⟩
theorem nO {no gen:Int}(h:lN no gen):(ek no gen).size=7:=by
 obtain⟨a,b,c,d⟩:=FK h;unfold ek;have f:=kX (z:=1) a qo qo b;have g:=kX (z:=6) c qo qo d;rw[Nv];have i:Pl.cW no 1=Pl.cW no ((1:Nat):Int):=rfl;have j:Pl.cW gen 6=Pl.cW gen ((6:Nat):Int):=rfl;rw[i,j,f,g]
theorem pO (a b:ByteArray) (n:Nat) (h:a.size=n):(a++b).extract 0 n=a:=by
 subst h;rw[Pl.fX];have:(a++b).data.toList=a.data.toList++b.data.toList:=by simp[ByteArray.data_append]
 rw[this,List.drop_zero,OU qs,MY qs,Pl.gk]
theorem oR (a b:ByteArray) (n m:Nat) (h:a.size=n) (hm:a.size+b.size<=m):(a++b).extract n m=b:=by
 subst h;rw[Pl.fX];have:(a++b).data.toList=a.data.toList++b.data.toList:=by simp[ByteArray.data_append]
 have c:a.size=a.data.toList.length:=by simp
 rw[this,c,List.drop_left,MY (by simp;have:b.data.size=b.size:=rfl;have d:a.data.size=a.size:=rfl;omega),Pl.gk]
theorem zA {no gen:Int} (h:lN no gen):jR (ek no gen)=no/\iC (ek no gen)=gen:=by
 have f:=nO h;obtain⟨a,b,c,d⟩:=FK h;have g:(Pl.cW no 1).size=1:=kX (z:=1) a qo qo b;have i:(Pl.cW gen 6).size=6:=kX (z:=6) c (by omega) (by omega) d;unfold jR iC;rw[MC f,MC f];unfold ek;rw[pO _ _ 1 g,oR _ _ 1 7 g (by omega)];exact⟨lC (z:=1) a qo qo b,lC (z:=6) c qo qo d⟩
def kq (c:Cl) (x:Int × ByteArray):Cl :=
 if x.1=1 then { c with k:=Pl.de x.2 }
 else if x.1=2 then { c with no:=jR x.2,gen:=iC x.2 }
 else if x.1=3 then { c with jz:=jR x.2,fm:=iC x.2 }
 else if x.1=4 then { c with nm:=x.2 }
 else if x.1=5 then { c with lV:=x.2 }
 else if x.1=6 then { c with pl:=Pl.de x.2 }
 else if x.1=7 then { c with n:=Pl.de x.2 }
 else if x.1=8 then { c with data:=x.2 }
 else c
def eL (l:List (Int × ByteArray)):Cl:=l.foldl kq zero
def eR (l:List (Int × ByteArray)) (t:Int):ByteArray:=l.foldl (λs x=>if x.1=t then x.2 else s) ⟨#[]⟩
theorem nL (l)(x:Int × ByteArray)(t):eR (l++[x]) t=if x.1=t then x.2 else eR l t:=by simp[eR]
theorem sU (l)(x:Int × ByteArray):eL (l++[x])=kq (eL l) x:=by simp[eL]
theorem yf {α:Type}{p:List α->Prop}(h0:p [])(h1:∀ l x,p l->p (l++[x]))(l:List α):p l:=by
 have:∀ m:List α,p m.reverse:=by
  intro m
  induction m with
  | nil=>exact h0
  | cons x m ih=>rw[List.reverse_cons];exact h1 _ _ ih
 have:=this l.reverse
 rwa [List.reverse_reverse]at this
def mC (L:List UInt8):Bool:=decide (Pl.dX L=0)&&right (eL (Pl.dA L))&&decide (Pl.encs (fields (eL (Pl.dA L)))=L)
def jY (L:List UInt8):Cl:=if mC L then eL (Pl.dA L) else zero
def fZ (L:List UInt8):Int:=if mC L then 0 else 413
end Ak
namespace Ak
theorem m7:∀ (l:List (Int × ByteArray)) (last:Int) (y:Int × ByteArray),Pl.dd last l=0->(∀ x∈l,x.1<=y.1)->last<=y.1->1<=y.1->y.1<=255->y.2.size<=65535->Pl.dd last (l++[y])=0
 | [],last,y,_,_,h1,h2,h3,h4 => by
  have:Pl.iH last y=0:=by unfold Pl.iH;rw[ME qo,ME qo,ME qo]
  simp[Pl.dd,this]
 | x::l,last,y,hp,hx,h1,h2,h3,h4 => by
  have hb:Pl.iH last x=0:=by
   unfold Pl.dd at hp;split at hp
   ·assumption
   ·exact hp
  have hp':Pl.dd x.1 l=0:=by
   unfold Pl.dd at hp
   rwa [MC hb]at hp
  show Pl.dd last (x::(l++[y]))=0;unfold Pl.dd;rw[MC hb];exact m7 l x.1 y hp' (λz hz=>hx z (by simp[hz])) (hx x qs) h2 h3 h4
def Up (l:List (Int × ByteArray)) (t:Int) (n:Nat):Prop:=Pl.dd 1 l=0/\(∀ x∈l,x.1<=t)/\(Pl.encs l).length<=n
theorem Up.opt {l:List (Int × ByteArray)}{t u:Int}{n m:Nat}{b:Bool}{s:ByteArray}(h:Up l t n)(h1:1<=t)(ht:t<u)(hu:u<=255)(hs:s.size<=m)(hm:m<=65535):Up (l++opt b (u,s)) u (n+3+m):=by
 obtain⟨d,c,f⟩:=h;unfold Ak.opt
 cases b with
 | true =>
  rw[MC rfl];refine⟨m7 l 1 (u,s) d (λx a=>?_) ?_ ?_ ?_ ?_,?_,?_⟩
  ·have:=c x a;simp only;omega
  ·simp only;omega
  ·simp only;omega
  ·simp only;omega
  ·simp only;omega
  ·intro x a
   rcases Na.1 a with a | a
   ·have:=c x a;omega
   ·simp at a;subst a;simp
  ·have e : Pl.encs (l++[(u,s)])=Pl.encs l++Pl.jH (u,s) := by simp[Pl.encs]
   have:=Pl.iQ (u,s);rw[e,MW];simp only at this;omega
 | false =>
  rw[ME qd,OD];exact⟨d,λx a=>by have:=c x a;omega,qo⟩
theorem fj (n z):(Pl.cW n z).size<=8:=by
 unfold Pl.cW;split
 ·decide
 ·rename_i h
  rw[Pl.iP,Pl.gM];unfold Pl.gl at h;simp at h;omega
theorem oH (a b):(ek a b).size<=16:=by
 have c:=fj a 1;have d:=fj b 6;unfold ek;rw[Nv];omega
theorem Kt (c:Cl):Up (f1 c) 1 11:=by
 have h:=fj c.k 1;refine⟨?_,?_,?_⟩
 ·have : Pl.iH 1 (1,Pl.cW c.k 1)=0 := by unfold Pl.iH;simp only;rw[ME qo,ME qo,ME qo]
  simp[f1,Pl.dd,this]
 ·intro x a;simp[f1]at a;subst a;simp
 ·have := Pl.iQ (1,Pl.cW c.k 1)
  simp only at this;simp only[f1,Pl.encs,List.flatMap_cons,List.flatMap_nil,List.append_nil];omega
theorem jE {c:Cl}(h:dN c):Up (fields c) 8 1700:=by
  obtain⟨hk,hh,hh2,hn,hn2,hp,hnn,hd⟩:=h
  have a2:=(Kt c).opt (b:=vG c.no c.gen) (u:=2) (s:=ek c.no c.gen) qo qo qo (oH _ _) qo
  have a3:=a2.opt (b:=vG c.jz c.fm) (u:=3) (s:=ek c.jz c.fm) qo qo qo (oH _ _) qo
  have a4:=a3.opt (b:=Bf c.nm) (u:=4) (s:=c.nm) qo qo qo hn qo
  have a5:=a4.opt (b:=Bf c.lV) (u:=5) (s:=c.lV) qo qo qo hn2 qo
  have a6:=a5.opt (b:=c.pl != 0) (u:=6) (s:=Pl.cW c.pl 4) qo qo qo (fj _ _) qo
  have a7:=a6.opt (b:=c.n != 0) (u:=7) (s:=Pl.cW c.n 2) qo qo qo (fj _ _) qo
  have a8:=a7.opt (b:=Bf c.data) (u:=8) (s:=c.data) qo qo qo hd qo
  exact⟨a8.1,a8.2.1,MS a8.2.2 qo⟩
theorem jc (l)(b)(x:Int × ByteArray):eL (l++opt b x)=if b then kq (eL l) x else eL l:=by
 unfold opt
 cases b with
 | true=>rw[MC rfl,MC rfl,sU]
 | false=>rw[ME qd,ME qd,OD]
theorem qx {s:ByteArray}(h:Bf s=false):s=⟨#[]⟩:=by
 unfold Bf at h;rw[ND]at h;simp at h
 cases s
 simp at h;rw[h]
theorem GX {no gen:Int}(h:vG no gen=false):no=0/\gen=0:=by
 unfold vG at h;simp at h;exact h
theorem oZ {c:Cl} (h:dN c):eL (fields c) = c:=by
  obtain ⟨hk,hh,hh2,hn,hn2,hp,hnn,hd⟩:=h
  have g1:eL (f1 c) = ⟨c.k,0,0,0,0,⟨#[]⟩,⟨#[]⟩,0,0,⟨#[]⟩⟩:=by
    have:Pl.de (Pl.cW c.k 1)=c.k:=lC (z:=1) (by omega) (by omega) (by omega) (by omega)
    simp [eL,f1,kq,zero,this]
  have g2:eL (f2 c) = ⟨c.k,c.no,c.gen,0,0,⟨#[]⟩,⟨#[]⟩,0,0,⟨#[]⟩⟩:=by
    unfold f2
    rw [jc,g1]
    cases hz:vG c.no c.gen with
    | true=>rw [MC rfl];obtain ⟨e1,e2⟩:=zA hh;simp [kq,e1,e2]
    | false=>rw [ME (by decide)];obtain ⟨e1,e2⟩:=GX hz;rw [e1,e2]
  have g3:eL (f3 c) = ⟨c.k,c.no,c.gen,c.jz,c.fm,⟨#[]⟩,⟨#[]⟩,0,0,⟨#[]⟩⟩:=by
    unfold f3
    rw [jc,g2]
    cases hz:vG c.jz c.fm with
    | true=>rw [MC rfl];obtain ⟨e1,e2⟩:=zA hh2;simp [kq,e1,e2]
    | false=>rw [ME (by decide)];obtain ⟨e1,e2⟩:=GX hz;rw [e1,e2]
  have g4:eL (f4 c) = ⟨c.k,c.no,c.gen,c.jz,c.fm,c.nm,⟨#[]⟩,0,0,⟨#[]⟩⟩:=by
    unfold f4
    rw [jc,g3]
    cases hz:Bf c.nm with
    | true=>rw [MC rfl];simp [kq]
    | false=>rw [ME (by decide),qx hz]
  have g5:eL (f5 c) = ⟨c.k,c.no,c.gen,c.jz,c.fm,c.nm,c.lV,0,0,⟨#[]⟩⟩:=by
    unfold f5
    rw [jc,g4]
    cases hz:Bf c.lV with
    | true=>rw [MC rfl];simp [kq]
    | false=>rw [ME (by decide),qx hz]
  have g6:eL (f6 c) = ⟨c.k,c.no,c.gen,c.jz,c.fm,c.nm,c.lV,c.pl,0,⟨#[]⟩⟩:=by
    unfold f6
    rw [jc,g5]
    cases hz:(c.pl != 0) with
    | true =>
      have:Pl.de (Pl.cW c.pl 4)=c.pl:=lC (z:=4) (by omega) (by omega) (by omega) (by omega)
      rw [MC rfl];simp [kq,this]
    | false => have : c.pl = 0 := by simpa using hz
               rw [ME (by decide),this]
  have g7:eL (f7 c) = ⟨c.k,c.no,c.gen,c.jz,c.fm,c.nm,c.lV,c.pl,c.n,⟨#[]⟩⟩:=by
    unfold f7
    rw [jc,g6]
    cases hz:(c.n != 0) with
    | true =>
      have:Pl.de (Pl.cW c.n 2)=c.n:=lC (z:=2) (by omega) (by omega) (by omega) (by omega)
      rw [MC rfl];simp [kq,this]
    | false => have : c.n = 0 := by simpa using hz
               rw [ME (by decide),this]
  unfold fields
  rw [jc,g7]
  cases hz:Bf c.data with
  | true=>rw [MC rfl];simp [kq]
  | false=>have:=qx hz;rw [ME (by decide)];cases c;simp only at this;rw [this]
theorem back {c:Cl} (h:right c = true):jY (Pl.encs (fields c)) = c/\fZ (Pl.encs (fields c)) = 0/\(Pl.encs (fields c)).length<=1700:=by
  have hr:=cG.1 h
  have hu:=jE hr
  obtain ⟨e1,e2⟩:=Pl.Ax (fields c) hu.1
  have hc:mC (Pl.encs (fields c)) = true:=by
    unfold mC
    rw [e1,e2,oZ hr,h]
    simp
  refine ⟨?_,?_,hu.2.2⟩
  · unfold jY;rw [MC hc,e1,oZ hr]
  · unfold fZ;rw [MC hc]
theorem JO {L:List UInt8}(h:fZ L=0):right (jY L)=true/\Pl.encs (fields (jY L))=L:=by
 unfold fZ at h;split at h
 ·rename_i hc
  unfold jY;rw[MC hc];unfold mC at hc;simp only[Bool.and_eq_true,decide_eq_true_eq]at hc;exact⟨hc.1.2,hc.2⟩
 ·cases h
theorem CV {L:List UInt8}(h:fZ L≠0):jY L=zero/\fZ L=413:=by
 unfold fZ at h;unfold jY fZ;split at h
 ·exact absurd rfl h
 ·rename_i hc
  simp[hc]
end Ak
end Go.Proofs.YtiifhfmekbhlnaaGreat.Ks
namespace Go.Proofs.YtiifhfmekbhlnaaGreat.Ks
open ChangeShapes WideShapes ChangeAt RowKit Deep
theorem laidOut:laidOutB Tryz.prog=true:=qk
theorem own:ownKnob Tryz.prog.godebug=none:=qk
theorem mZ (W:World)(b len cap:Nat)(xs:List Int)(hlen:xs.length=len)(hcell:∀ i,i<len->W.cell? ⟨b,i,none⟩=some (.int .u8 (xs.getD i 0))) :
  (convert 132 9 (.slice (some ⟨b,0,none⟩) len cap)).run Tryz.prog W=.ok (.string (Pl.jA (xs.map λn=>UInt8.ofNat n.toNat))) W :=
 run_convert_bytes_arg W 132 5 Tryz.underlying132 Tryz.underlying5 b 0 len cap xs hlen (λi a=>by rw[NS];exact hcell i a) 9 Tryz.underlying9
theorem Db:(Tryz.prog.info? 5).map (λi=>(i.zero,i.size,i.bytes))=some (some (.int .u8 0),1,1):=qk
def yA (m z r q:Nat):Value:=.int .u8 (if r<=q then (m / 256 ^ (z-1-q) % 256:Nat) else 0)
theorem xV (n size)(w)(hn:n<=9223372036854775807) :
  Calls Tryz.prog 125 #[.int .i64 n,.int .i64 size] w λe w'=>e=.returned (.tuple #[.string (Pl.cW n size),.int .i64 (Pl.ja n size)])/\Bw w w':=by
 by_cases h1:size<1
 ·have a:Pl.gl n size=true:=by simp[Pl.gl,h1]
  have H:Hid (Pl.cW n size=Pl.jA []/\Pl.ja n size=1):=⟨by simp[Pl.cW,a],by simp[Pl.ja,a]⟩;clear a;go_enter Tryz.func125,Tryz.ntmps125;go_wp2
  go_ret2
  rw[H.out.1,H.out.2];exact⟨rfl,MJ _ _⟩
 by_cases h2:8<size
 ·have a:Pl.gl n size=true:=by simp[Pl.gl,h2]
  have H:Hid (Pl.cW n size=Pl.jA []/\Pl.ja n size=1):=⟨by simp[Pl.cW,a],by simp[Pl.ja,a]⟩;clear a;go_enter Tryz.func125,Tryz.ntmps125;go_wp2
  go_ret2
  rw[H.out.1,H.out.2];exact⟨rfl,MJ _ _⟩
 by_cases h3:n<0
 ·have a:Pl.gl n size=true:=by simp[Pl.gl,h3]
  have H:Hid (Pl.cW n size=Pl.jA []/\Pl.ja n size=1):=⟨by simp[Pl.cW,a],by simp[Pl.ja,a]⟩;clear a;go_enter Tryz.func125,Tryz.ntmps125;go_wp2
  go_ret2
  rw[H.out.1,H.out.2];exact⟨rfl,MJ _ _⟩
 obtain⟨m,rfl⟩:=N7 (show 0<=n by omega);obtain⟨z,rfl⟩:=N7 (show 0<=size by omega);have h:=run_make_row' (P:=Tryz.prog) 132 5 (.int .u8 0) 1 Tryz.underlying132 Db rfl .i64 .i64 z qo qo;go_enter Tryz.func125,Tryz.ntmps125;go_wp2;go_loopw [0,7] (λt i wr=>∃ r:Nat,r<=z/\i=.int .i64 ((r:Int)-1)/\t=.int .i64 ((m / 256 ^ (z-r):Nat):Int)/\wr.rowIs w.1.size 5 z (yA m z r)/\Bw w wr) (λ_ i _=>(intOf i+1).toNat)
 case atStart =>
  refine⟨z,qn,rfl,qs,(World.rowIs_made w (.int .u8 0) z 5).congr λq v=>?_,qG _ _⟩;simp[yA,Nat.not_le.2 v]
 case round =>
  obtain⟨r,p,rfl,rfl,b,c⟩:=hrel;obtain⟨x,f⟩:=qE (m / 256 ^ (z-r));have A:x<=m:=by rw[<-f];exact Nat.div_le_self _ _
  rw[f];have k:=hH f;clear f h
  match r,p with
  | j+1,p =>
   have s:((j+1:Nat):Int)-1=(j:Int):=qo
   rw[s];clear s;have C:=b.cell (i:=j) qo;have D:=b.frozen j;have H:=hH b;clear b;have B:j<z:=qo
   go_wp2
   go_roundw
   case rel =>
    have u:=k.out;refine⟨j,qo,rfl,?_,(H.set j _).congr λq v=>?_,c.setCell qn _⟩
    ·have:=Pl.Gf m (z-(j+1));rw[O3,u]at this;rw[this,show z-(j+1)+1=z-j from by omega]
    ·unfold yA
     by_cases hq1:q=j
     ·subst hq1;rw[MC rfl,MC qn,show z-1-q=z-(q+1) from by omega,u];simp
     ·rw[ME hq1]
      by_cases hq2:j<=q
      ·rw[MC hq2,MC qo]
      ·rw[ME hq2,ME qo]
   case measure=>simp[intOf]
  | 0,p =>
   have d:z-0=z:=qo
   by_cases h0:x=0
   ·have a:Pl.gl m z=false:=by
     have:=k.out;rw[d]at this;simp[Pl.gl,this,h0];omega
    have H:Hid (Pl.cW m z=Pl.jA (Pl.digits z m)/\Pl.ja m z=0):=⟨by simp[Pl.cW,a],by simp[Pl.ja,a]⟩;clear a;have l:=mZ wr w.1.size z z ((List.range z).map λq=>((m / 256 ^ (z-1-q) % 256:Nat):Int)) qs (λi y=>by
     rw[b.cell y];simp[yA,y,List.getD])
    rw[show List.map (λn:Int=>UInt8.ofNat n.toNat) ((List.range z).map λq=>((m / 256 ^ (z-1-q) % 256:Nat):Int))=Pl.digits z m from by simp only[List.map_map,Pl.digits];exact Pg λq _=>by simp only[Function.comp,Int.toNat_natCast]]at l;have o:((x:Int)!=0)=false:=by simp[h0]
    have E:Hid _:=h0;clear h0;go_wp2
    go_ret2
    rw[H.out.1,H.out.2];exact⟨rfl,c⟩
   ·have a:Pl.gl m z=true:=by
     have:=k.out;rw[d]at this;simp[Pl.gl,this,h0]
    have H:Hid (Pl.cW m z=Pl.jA []/\Pl.ja m z=1):=⟨by simp[Pl.cW,a],by simp[Pl.ja,a]⟩;clear a;have o:((x:Int)!=0)=true:=by simp[h0]
    go_wp2
    go_ret2
    rw[H.out.1,H.out.2];exact⟨rfl,c⟩
end Go.Proofs.YtiifhfmekbhlnaaGreat.Ks
namespace Go.Proofs.YtiifhfmekbhlnaaGreat.Ks.Rs
open ChangeShapes WideShapes ChangeAt RowKit Deep
open Go.Proofs.YtiifhfmekbhlnaaGreat.Ks.Ak
structure jy (w:World) where
 out:World
 grown:w.grownBy out none
theorem ki (w):Nonempty (jy w):=⟨⟨w,jb _ _⟩⟩
theorem fK {P:Program}{id:Nat}{Q:Exit->Act->World->Prop}{a:Act}{w:World}{l:List Oper}(hm:P.follows .mixedOrders=true)(hB:Region.lexB .any l.toArray=true)(h:wpQuiet P l.toArray (λw'=>∃ p:jy w,w'=p.out) (λa'=>∀ w',(∃ p:jy w,w'=p.out)->Q .normal a' w') l a):(Code.region id l.toArray true).wp P Q a w :=
  wp_region_quiet (C:=λw'=>∃ p:jy w,w'=p.out) hm hB ⟨⟨w.drew,⟨rfl,rfl,rfl,qn,λ_ _ _=>rfl⟩⟩,rfl⟩ (by simpa using h)
theorem fN {P:Program}{f:FuncId}{args:Array Value}{w W:World}{v:Value}(hg:w.grownBy W none)(h:Calls P f args W λe w'=>e=.returned v/\Bw W w'):Calls P f args W λe w''=>e=.returned v/\∃ p:jy w,w''=p.out :=
 h.mono λ_ w' ⟨he,hw⟩=>⟨he,⟨w',cQ hg (cP hw none)⟩,rfl⟩
theorem jy.below {w:World}(p:jy w):Bw w p.out:=dR p.grown qn
theorem iU {w:World}{b j:Nat}{v:Value}(h:w.cell? ⟨b,j,none⟩=some v):b<w.1.size:=by
 rcases Ow b w.1.size with a | a
 ·exact a
 ·simp[World.cell?,Array.getElem?_eq_none a]at h
theorem cC {w w':World}{b j:Nat}{v:Value}(h:w.cell? ⟨b,j,none⟩=some v)(hb:Bw w w'):w'.cell? ⟨b,j,none⟩=some v:=(hb.cell (p:=⟨b,j,none⟩) (iU h)).trans h
theorem jy.cell {w:World}(p:jy w){b j:Nat}{v:Value}(h:w.cell? ⟨b,j,none⟩=some v):p.out.cell? ⟨b,j,none⟩=some v:=cC h p.below
theorem dC {w:World}{b:Nat}{o:Obj}(h:w.1[b]?=some o):b<w.1.size:=by
 rcases Ow b w.1.size with a | a
 ·exact a
 ·rw[NM a]at h;cases h
theorem dI {w w':World}{b:Nat}{o:Obj}(h:w.1[b]?=some o)(hb:Bw w w'):w'.1[b]?=some o:=(hb.block b (dC h)).trans h
abbrev VH (no gen:Int):Value:=.agg #[.int .i64 no,.int .i64 gen]
abbrev BH (no gen:Int):Obj:=.cells #[.int .i64 no,.int .i64 gen] 57
theorem cU {w:World}{b:Nat}{x y:Int}(h:w.1[b]?=some (BH x y)):w.cell? ⟨b,0,none⟩=some (.int .i64 x)/\w.cell? ⟨b,1,none⟩=some (.int .i64 y):=by
 refine⟨?_,?_⟩ <;> simp[World.cell?,h]
end Go.Proofs.YtiifhfmekbhlnaaGreat.Ks.Rs
namespace Go.Proofs.YtiifhfmekbhlnaaGreat.Ks
open ChangeShapes WideShapes ChangeAt RowKit Deep
theorem II (s:ByteArray) (h:0<s.size):(s.data.toList.headD 0)=s[0]:=by
 have a:0<s.data.toList.length:=by simpa using h
 match hl:s.data.toList,a with
 | b::r, _ =>
  have:s.data.toList[0]'(by simpa using h)=b:=by simp[hl]
  simp only[List.headD_cons];rw[<-this];rfl
theorem pd (s )(w )(hs : s.size ≤ maxLen) :
  Calls Tryz.prog 151 #[.string s] w λe w'=>e=.returned (.tuple #[.int .i64 (Pl.de s),.int .i64 (Pl.fO s)])/\w'=w:=by
 unfold maxLen at hs
 by_cases h1:s.size<1
 ·have H : Hid (Pl.de s=0 ∧ Pl.fO s=1) := ⟨by simp[Pl.de,Pl.sX,h1],by simp[Pl.fO,Pl.sX,h1]⟩
  go_enter Tryz.func151,Tryz.ntmps151;go_wp2
  go_ret2
  rw[H.out.1,H.out.2];exact⟨rfl,rfl⟩
 by_cases h2:8<s.size
 ·have H : Hid (Pl.de s=0 ∧ Pl.fO s=1) := ⟨by simp[Pl.de,Pl.sX,h2],by simp[Pl.fO,Pl.sX,h2]⟩
  go_enter Tryz.func151,Tryz.ntmps151;go_wp2
  go_ret2
  rw[H.out.1,H.out.2];exact⟨rfl,rfl⟩
 have c:Pl.sX s=false:=by simp only[Pl.sX,decide_eq_false_iff_not];omega
 have hp:0<s.size:=qo
 have d:=II s hp
 by_cases h8:s.size=8
 ·by_cases h9 : 128 ≤ (s[0]'hp).toNat
  ·have b : Pl.tm s=true := by simp only[Pl.tm,d];simp[h8,h9]
   have H:Hid (Pl.de s=0/\Pl.fO s=4):=⟨by simp[Pl.de,b],by simp[Pl.fO,c,b]⟩;clear b c d;have p:((s.size:Int)==8)=true:=by simp[h8]
   have g:(128:Int)<=((s[0]'hp).toNat:Int):=qo
   clear h8;go_enter Tryz.func151,Tryz.ntmps151;go_wp2
   go_ret2
   rw[H.out.1,H.out.2];exact⟨rfl,rfl⟩
  ·have b : Pl.tm s=false := by simp only[Pl.tm,d];simp;omega
   have p:((s.size:Int)==8)=true:=by simp[h8]
   have g:¬ (128:Int)<=((s[0]'hp).toNat:Int):=qo
   have f:=Pl.o0 s.data.toList;have a:s.data.toList.length=s.size:=qs
   have h:Hid (∀ k,k<s.size->Pl.numOf (s.data.toList.take k)<36028797018963968):=λk o=>f k qo (by rw[a,d];omega) qo
   clear f a;have H:Hid (Pl.de s=Pl.numOf s.data.toList/\Pl.fO s=0):=⟨by simp[Pl.de,c,b],by simp[Pl.fO,c,b]⟩;clear b c d;clear h8;go_enter Tryz.func151,Tryz.ntmps151;go_wp2
   go_loop [4,24] (λt i=>∃ k:Nat,k<=s.size/\i=.int .i64 k/\t=.int .i64 (Pl.numOf (s.data.toList.take k))) (λ_ i=>s.size-(intOf i).toNat)
   case atStart=>exact⟨0,MV _,rfl,rfl⟩
   case round =>
    obtain⟨k,o,rfl,rfl⟩:=hrel
    by_cases hlt:k<s.size
    ·have j : Hid (Pl.numOf (s.data.toList.take (k+1))=256*Pl.numOf (s.data.toList.take k)+(s[k]'hlt).toNat) := Pl.nk s k hlt
     have l:=h.out k hlt;generalize Pl.numOf (s.data.toList.take k)=x at *;have m:=(s[k]'hlt).toNat_lt;have n:=Pl.Da x (s[k]'hlt) l;go_wp2
     go_round
     case rel =>
      refine⟨k+1,qo,by go_num,?_⟩;rw[j.out]
      go_num
     case measure=>simp[intOf];omega
    ·obtain rfl : k=s.size := by omega
     rw[MY qs];go_wp2
     go_ret2
     rw[H.out.1,H.out.2];exact⟨rfl,rfl⟩
 ·have b : Pl.tm s=false := by simp[Pl.tm,h8]
  have p:((s.size:Int)==8)=false:=qt
  have f:=Pl.o0 s.data.toList;have a:s.data.toList.length=s.size:=qs
  have h:Hid (∀ k,k<s.size->Pl.numOf (s.data.toList.take k)<36028797018963968):=λk o=>f k qo (by rw[a,d];omega) qo
  clear f a;have H:Hid (Pl.de s=Pl.numOf s.data.toList/\Pl.fO s=0):=⟨by simp[Pl.de,c,b],by simp[Pl.fO,c,b]⟩;clear b c d;clear h8;go_enter Tryz.func151,Tryz.ntmps151;go_wp2
  go_loop [4,24] (λt i=>∃ k:Nat,k<=s.size/\i=.int .i64 k/\t=.int .i64 (Pl.numOf (s.data.toList.take k))) (λ_ i=>s.size-(intOf i).toNat)
  case atStart=>exact⟨0,MV _,rfl,rfl⟩
  case round =>
   obtain⟨k,o,rfl,rfl⟩:=hrel
   by_cases hlt:k<s.size
   ·have j : Hid (Pl.numOf (s.data.toList.take (k+1))=256*Pl.numOf (s.data.toList.take k)+(s[k]'hlt).toNat) := Pl.nk s k hlt
    have l:=h.out k hlt;generalize Pl.numOf (s.data.toList.take k)=x at *;have m:=(s[k]'hlt).toNat_lt;have n:=Pl.Da x (s[k]'hlt) l;go_wp2
    go_round
    case rel =>
     refine⟨k+1,qo,by go_num,?_⟩;rw[j.out]
     go_num
    case measure=>simp[intOf];omega
   ·obtain rfl : k=s.size := by omega
    rw[MY qs];go_wp2
    go_ret2
    rw[H.out.1,H.out.2];exact⟨rfl,rfl⟩
end Go.Proofs.YtiifhfmekbhlnaaGreat.Ks
namespace Go.Proofs.YtiifhfmekbhlnaaGreat.Ks.Rs
open ChangeShapes WideShapes ChangeAt RowKit Deep
namespace At
abbrev dN (k l s t:Int):Prop:=(k = 0/\l = 0/\s = 0/\t = 0)\/((0<=s/\s<=1048576)/\(0<=t/\t<=1099511627776)/\((k = 1/\0<=l/\l<=64)\/(k = 2/\l = 1)))
def right (k l s t:Int):Bool:=decide (dN k l s t)
theorem cG {k l s t:Int}:right k l s t=true ↔ dN k l s t:=by simp[right]
theorem iy {k l s t:Int}:right k l s t=false ↔ ¬ dN k l s t:=by simp[right]
end At
abbrev BA (k l s t:Int):Obj:=.cells #[.int .i64 k,.int .i64 l,.int .i64 s,.int .i64 t] 59
abbrev VA (k l s t:Int):Value:=.agg #[.int .i64 k,.int .i64 l,.int .i64 s,.int .i64 t]
theorem jX (lo x hi)(w):Calls Tryz.prog 142 #[.int .i64 lo,.int .i64 x,.int .i64 hi] w λe w'=>e=.returned (.bool (decide (lo<=x/\x<=hi)))/\w'=w:=by
 by_cases h1:lo<=x
 ·by_cases h2 : x ≤ hi
  ·rw[MT (show lo ≤ x ∧ x ≤ hi from⟨h1,h2⟩)]
   go_enter Tryz.func142,Tryz.ntmps142;go_wp2;go_ret;exact⟨rfl,rfl⟩
  ·rw[MO (show ¬ (lo ≤ x ∧ x ≤ hi) from λh => h2 h.2)]
   go_enter Tryz.func142,Tryz.ntmps142;go_wp2;go_ret;exact⟨rfl,rfl⟩
 ·rw[MO (show ¬ (lo ≤ x ∧ x ≤ hi) from λh => h1 h.1)]
  go_enter Tryz.func142,Tryz.ntmps142;go_wp2;go_ret;exact⟨rfl,rfl⟩
theorem di (lo x hi)(w)(h:lo<=x/\x<=hi):Calls Tryz.prog 142 #[.int .i64 lo,.int .i64 x,.int .i64 hi] w λe w'=>e=.returned (.bool true)/\w'=w:=by
 have:=jX lo x hi w
 rwa [MT h]at this
theorem eZ (lo x hi)(w)(h:¬ (lo<=x/\x<=hi)):Calls Tryz.prog 142 #[.int .i64 lo,.int .i64 x,.int .i64 hi] w λe w'=>e=.returned (.bool false)/\w'=w:=by
 have:=jX lo x hi w
 rwa [MO h]at this
theorem dF (k l s t)(w)(h:At.right k l s t=true):Calls Tryz.prog 93 #[VA k l s t] w λe w'=>e=.returned (.int .i64 0)/\w'=w.alloc (BA k l s t):=by
 rcases At.cG.1 h with⟨rfl,rfl,rfl,rfl⟩ | ⟨b,c,⟨rfl,d⟩ | ⟨rfl,rfl⟩⟩
 ·clear h
  go_enter Tryz.func93,Tryz.ntmps93;go_wp2;go_ret;exact⟨rfl,rfl⟩
 ·have a : Hid ((0 ≤ l ∧ l ≤ 64) ∧ (0 ≤ s ∧ s ≤ 1048576) ∧ (0 ≤ t ∧ t ≤ 1099511627776)) := ⟨d,b,c⟩
  clear h d b c;go_enter Tryz.func93,Tryz.ntmps93;go_wp2_with fail;refine (di _ _ _ _ a.out.1).mono ?_;rintro e w' ⟨rfl,rfl⟩;go_wp2_with fail;refine (di _ _ _ _ a.out.2.1).mono ?_;rintro e w' ⟨rfl,rfl⟩;go_wp2_with fail;refine (di _ _ _ _ a.out.2.2).mono ?_;rintro e w' ⟨rfl,rfl⟩;go_wp2;go_ret;exact⟨rfl,rfl⟩
 ·have a : Hid ((0 ≤ s ∧ s ≤ 1048576) ∧ (0 ≤ t ∧ t ≤ 1099511627776)) := ⟨b,c⟩
  clear h b c;go_enter Tryz.func93,Tryz.ntmps93;go_wp2_with fail;refine (di _ _ _ _ qd).mono ?_;rintro e w' ⟨rfl,rfl⟩;go_wp2_with fail;refine (di _ _ _ _ a.out.1).mono ?_;rintro e w' ⟨rfl,rfl⟩;go_wp2_with fail;refine (di _ _ _ _ a.out.2).mono ?_;rintro e w' ⟨rfl,rfl⟩;go_wp2;go_ret;exact⟨rfl,rfl⟩
theorem nw (l s t)(w)(h:¬ ((0<=l/\l<=64)/\(0<=s/\s<=1048576)/\(0<=t/\t<=1099511627776))):Calls Tryz.prog 93 #[VA 1 l s t] w λe w'=>e=.returned (.int .i64 70)/\w'=w.alloc (BA 1 l s t):=by
 by_cases h1:0<=l/\l<=64
 ·by_cases h2 : 0 ≤ s ∧ s ≤ 1048576
  ·have a : Hid ((0 ≤ l ∧ l ≤ 64) ∧ (0 ≤ s ∧ s ≤ 1048576) ∧ ¬ (0 ≤ t ∧ t ≤ 1099511627776)) := ⟨h1,h2,λb => h ⟨h1,h2,b⟩⟩
   clear h1 h2 h;go_enter Tryz.func93,Tryz.ntmps93;go_wp2_with fail;refine (di _ _ _ _ a.out.1).mono ?_;rintro e w' ⟨rfl,rfl⟩;go_wp2_with fail;refine (di _ _ _ _ a.out.2.1).mono ?_;rintro e w' ⟨rfl,rfl⟩;go_wp2_with fail;refine (eZ _ _ _ _ a.out.2.2).mono ?_;rintro e w' ⟨rfl,rfl⟩;go_wp2;go_ret;exact⟨rfl,rfl⟩
  ·have a : Hid ((0 ≤ l ∧ l ≤ 64) ∧ ¬ (0 ≤ s ∧ s ≤ 1048576)) := ⟨h1,h2⟩
   clear h1 h2 h;go_enter Tryz.func93,Tryz.ntmps93;go_wp2_with fail;refine (di _ _ _ _ a.out.1).mono ?_;rintro e w' ⟨rfl,rfl⟩;go_wp2_with fail;refine (eZ _ _ _ _ a.out.2).mono ?_;rintro e w' ⟨rfl,rfl⟩;go_wp2;go_ret;exact⟨rfl,rfl⟩
 ·have a : Hid (¬ (0 ≤ l ∧ l ≤ 64)) := h1
  clear h1 h;go_enter Tryz.func93,Tryz.ntmps93;go_wp2_with fail;refine (eZ _ _ _ _ a).mono ?_;rintro e w' ⟨rfl,rfl⟩;go_wp2;go_ret;exact⟨rfl,rfl⟩
theorem ph (s t)(w)(h:¬ ((0<=s/\s<=1048576)/\(0<=t/\t<=1099511627776))):Calls Tryz.prog 93 #[VA 2 1 s t] w λe w'=>e=.returned (.int .i64 70)/\w'=w.alloc (BA 2 1 s t):=by
 by_cases h2:0<=s/\s<=1048576
 ·have a : Hid ((0 ≤ s ∧ s ≤ 1048576) ∧ ¬ (0 ≤ t ∧ t ≤ 1099511627776)) := ⟨h2,λb => h ⟨h2,b⟩⟩
  clear h2 h;go_enter Tryz.func93,Tryz.ntmps93;go_wp2_with fail;refine (di _ _ _ _ qd).mono ?_;rintro e w' ⟨rfl,rfl⟩;go_wp2_with fail;refine (di _ _ _ _ a.out.1).mono ?_;rintro e w' ⟨rfl,rfl⟩;go_wp2_with fail;refine (eZ _ _ _ _ a.out.2).mono ?_;rintro e w' ⟨rfl,rfl⟩;go_wp2;go_ret;exact⟨rfl,rfl⟩
 ·have a : Hid (¬ (0 ≤ s ∧ s ≤ 1048576)) := h2
  clear h2 h;go_enter Tryz.func93,Tryz.ntmps93;go_wp2_with fail;refine (di _ _ _ _ qd).mono ?_;rintro e w' ⟨rfl,rfl⟩;go_wp2_with fail;refine (eZ _ _ _ _ a).mono ?_;rintro e w' ⟨rfl,rfl⟩;go_wp2;go_ret;exact⟨rfl,rfl⟩
theorem jQ (k l s t )(w )(h : At.right k l s t=false) : Calls Tryz.prog 93 #[VA k l s t] w λe w' => e=.returned (.int .i64 70) ∧ w'=w.alloc (BA k l s t) := by
 have a:=At.iy.1 h;clear h;unfold At.dN at a
 by_cases k1:k=1
 ·subst k1
  exact nw l s t w (λh=>a (.inr ⟨h.2.1,h.2.2,.inl ⟨rfl,h.1⟩⟩))
 by_cases k2:k=2
 ·by_cases l1 : l=1
  ·subst k2
   subst l1;exact ph s t w (λh=>a (.inr ⟨h.1,h.2,.inr ⟨rfl,rfl⟩⟩))
  ·subst k2
   clear a;go_enter Tryz.func93,Tryz.ntmps93;go_wp2;go_ret;exact⟨rfl,rfl⟩
 by_cases k0:k=0
 ·subst k0
  have b:((l==0)&&((s==0)&&(t==0)))=false:=by
   rw[ON];intro h;simp at h;exact a (.inl ⟨rfl,h.1,h.2.1,h.2.2⟩)
  by_cases l0:l=0
  ·by_cases s0 : s=0
   ·have c : ¬ t=0 := λh => a (.inl ⟨rfl,l0,s0,h⟩)
    clear b a k1 k2;subst l0;subst s0;go_enter Tryz.func93,Tryz.ntmps93;go_wp2;go_ret;exact⟨rfl,rfl⟩
   ·clear b a k1 k2
    subst l0;go_enter Tryz.func93,Tryz.ntmps93;go_wp2;go_ret;exact⟨rfl,rfl⟩
  ·clear b a k1 k2
   go_enter Tryz.func93,Tryz.ntmps93;go_wp2;go_ret;exact⟨rfl,rfl⟩
 ·clear a
  go_enter Tryz.func93,Tryz.ntmps93;go_wp2;go_ret;exact⟨rfl,rfl⟩
theorem xU (n size)(w)(hn:n<=9223372036854775807):Calls Tryz.prog 173 #[.int .i64 n,.int .i64 size] w λe w'=>e=.returned (.string (Pl.cW n size))/\Bw w w':=by
 go_enter Tryz.func173,Tryz.ntmps173;go_wp2_with fail;refine (xV n size _ hn).mono ?_;rintro e b ⟨rfl,a⟩;go_wp2;go_ret;exact⟨rfl,a⟩
theorem oG (s)(w)(hs:s.size<=maxLen):Calls Tryz.prog 175 #[.string s] w λe w'=>e=.returned (.int .i64 (Pl.de s))/\w'=w:=by
 have a:=hH hs;clear hs;go_enter Tryz.func175,Tryz.ntmps175;go_wp2_with fail;refine (pd s _ a).mono ?_;rintro e b ⟨rfl,rfl⟩;go_wp2;go_ret;exact⟨rfl,rfl⟩
theorem Pl.lE (n size):(Pl.cW n size).size<=8:=by
 unfold Pl.cW;split
 ·decide
 ·rename_i h
  rw[Pl.iP,Pl.gM];unfold Pl.gl at h;simp at h;omega
def At.db (k l s t:Int):ByteArray:=if At.right k l s t then Pl.cW k 1++Pl.cW l 1++Pl.cW s 4++Pl.cW t 6 else ⟨#[]⟩
def At.dd (k l s t:Int):Int:=if At.right k l s t then 0 else 70
theorem rj {w' w'':World}{R:Nat}{x0 x1 x2 x3:Value}(h:w'.cell? ⟨R,0,none⟩=some x0/\w'.cell? ⟨R,1,none⟩=some x1/\w'.cell? ⟨R,2,none⟩=some x2/\w'.cell? ⟨R,3,none⟩=some x3/\R<w'.1.size)(hb:Bw w' w'') :
  w''.cell? ⟨R,0,none⟩=some x0/\w''.cell? ⟨R,1,none⟩=some x1/\w''.cell? ⟨R,2,none⟩=some x2/\w''.cell? ⟨R,3,none⟩=some x3/\R<w''.1.size:=by
 obtain⟨b,c,d,f,a⟩:=h;exact⟨(hb.cell (p:=⟨R,0,none⟩) a).trans b,(hb.cell (p:=⟨R,1,none⟩) a).trans c,(hb.cell (p:=⟨R,2,none⟩) a).trans d,(hb.cell (p:=⟨R,3,none⟩) a).trans f,M6 a hb.size⟩
theorem D1 (k l s t )(w )(hs : s ≤ 9223372036854775807)(ht : t ≤ 9223372036854775807)(hk : k ≤ 9223372036854775807)(hl : l ≤ 9223372036854775807) :
  Calls Tryz.prog 144 #[VA k l s t] w λe w'=>e=.returned (.tuple #[.string (At.db k l s t),.int .i64 (At.dd k l s t)])/\Bw w w':=by
 by_cases hr:At.right k l s t=true
 ·have n : Hid (At.right k l s t=true) := hr
  have h:Hid (At.db k l s t=Pl.cW k 1++Pl.cW l 1++Pl.cW s 4++Pl.cW t 6/\At.dd k l s t=0):=⟨by simp[At.db,hr],by simp[At.dd,hr]⟩;have F:=Pl.lE k 1;have G:=Pl.lE l 1;have H:=Pl.lE s 4;have I:=Pl.lE t 6;obtain⟨j,c⟩:=qE (Pl.cW k 1);obtain⟨m,d⟩:=qE (Pl.cW l 1);obtain⟨o,f⟩:=qE (Pl.cW s 4);obtain⟨D,g⟩:=qE (Pl.cW t 6);rw[c,d,f,g]at h;rw[c]at F;rw[d]at G;rw[f]at H;rw[g]at I;have i:Hid (Pl.cW k 1=j/\Pl.cW l 1=m/\Pl.cW s 4=o/\Pl.cW t 6=D):=⟨c,d,f,g⟩;have J:¬ 9223372036854775807<j.size+m.size:=qo
  have K:¬ 9223372036854775807<j.size+m.size+o.size:=qo
  have L:¬ 9223372036854775807<j.size+m.size+o.size+D.size:=by omega
  clear hr c d f g;go_enter Tryz.func144,Tryz.ntmps144;go_wp2_with fail;refine (dF k l s t _ n.out).mono ?_;rintro e O ⟨rfl,rfl⟩;have v:Hid (((w.alloc (BA k l s t)).alloc (BA k l s t)).cell? ⟨w.1.size,0,none⟩=some (.int .i64 k)/\((w.alloc (BA k l s t)).alloc (BA k l s t)).cell? ⟨w.1.size,1,none⟩=some (.int .i64 l)/\((w.alloc (BA k l s t)).alloc (BA k l s t)).cell? ⟨w.1.size,2,none⟩=some (.int .i64 s)/\((w.alloc (BA k l s t)).alloc (BA k l s t)).cell? ⟨w.1.size,3,none⟩=some (.int .i64 t)/\w.1.size<((w.alloc (BA k l s t)).alloc (BA k l s t)).1.size):=⟨by simp,by simp,by simp,by simp,by simp;omega⟩;have x:Hid (Bw w ((w.alloc (BA k l s t)).alloc (BA k l s t))):=(qG _ _).alloc (by simp) _;go_wp2_with fail;obtain⟨W,p⟩:=qE ((w.alloc (BA k l s t)).alloc (BA k l s t));obtain⟨R,E⟩:=qE w.1.size;rw[p]at x;rw[p,E]at v;rw[p,E]
  go_region_held3 (λw'=>w'.cell? ⟨R,0,none⟩=some (.int .i64 k)/\w'.cell? ⟨R,1,none⟩=some (.int .i64 l)/\w'.cell? ⟨R,2,none⟩=some (.int .i64 s)/\w'.cell? ⟨R,3,none⟩=some (.int .i64 t)/\R<w'.1.size) (first | exact v | assumption | exact rj qa qa) (first
   | (go_at_call_of 173 (Value.int .i64 6);refine (xU t 6 _ ht).mono ?_;rintro e P ⟨rfl,q⟩;rw[i.out.2.2.2])
   | (go_at_call_of 173 (Value.int .i64 4);refine (xU s 4 _ hs).mono ?_;rintro e S ⟨rfl,r⟩;rw[i.out.2.2.1])
   | (go_at_call 173;have y:=a;refine (xU l 1 _ hl).mono ?_;rintro e T ⟨rfl,u⟩;rw[i.out.2.1])
   | (go_at_call 173;refine (xU k 1 _ hk).mono ?_;rintro e Q ⟨rfl,a⟩;rw[i.out.1]))
  all_goals
   have M:Hid (Bw w P):=by
    have z:=x.out;have N:Bw W Q:=⟨a.os,a.tape,a.output,a.size,a.block⟩;have A:=z.trans (N.mono z.size);have B:=A.trans (u.mono A.size);have C:=B.trans (r.mono B.size);exact C.trans (q.mono C.size)
   go_wp2
   go_ret2
   rw[h.out.1,h.out.2];exact⟨rfl,M⟩
 ·have b : At.right k l s t=false := by simpa using hr
  have n:=hH b;have h:Hid (At.db k l s t=⟨#[]⟩/\At.dd k l s t=70):=⟨by simp[At.db,b],by simp[At.dd,b]⟩;clear hr b;go_enter Tryz.func144,Tryz.ntmps144;go_wp2_with fail;refine (jQ k l s t _ n).mono ?_;rintro e O ⟨rfl,rfl⟩;go_wp2
  go_ret2
  rw[h.out.1,h.out.2];exact⟨rfl,(qG _ _).alloc qs _⟩
theorem qi {w:World}{b:Nat}{k l s t:Int}(h:w.1[b]?=some (BA k l s t)):w.cell? ⟨b,0,none⟩=some (.int .i64 k)/\w.cell? ⟨b,1,none⟩=some (.int .i64 l)/\w.cell? ⟨b,2,none⟩=some (.int .i64 s)/\w.cell? ⟨b,3,none⟩=some (.int .i64 t):=by
 refine⟨?_,?_,?_,?_⟩ <;> simp[World.cell?,h]
def At.k (S:ByteArray):Int:=Pl.de (S.extract 0 1)
def At.l (S:ByteArray):Int:=Pl.de (S.extract 1 2)
def At.s (S:ByteArray):Int:=Pl.de (S.extract 2 6)
def At.t (S:ByteArray):Int:=Pl.de (S.extract 6 S.size)
def At.dX (S:ByteArray):Int:=if S.size=12 then (if At.right (At.k S) (At.l S) (At.s S) (At.t S) then 0 else 70) else 4
def At.dA (S:ByteArray):Value:=if At.dX S=0 then VA (At.k S) (At.l S) (At.s S) (At.t S) else VA 0 0 0 0
theorem zU (S )(w ) :
  Calls Tryz.prog 152 #[.string S] w λe w'=>e=.returned (.tuple #[At.dA S,.int .i64 (At.dX S)])/\Bw w w':=by
 by_cases h12:S.size=12
 ·have i : (S.extract 0 1).size ≤ maxLen := by rw[NL];unfold maxLen;omega
  have j:(S.extract 1 2).size<=maxLen:=by rw[NL];unfold maxLen;omega
  have m:(S.extract 2 6).size<=maxLen:=by rw[NL];unfold maxLen;omega
  have n:(S.extract 6 12).size<=maxLen:=by rw[NL];unfold maxLen;omega
  have c:Hid (((S.extract 0 1).size<=maxLen/\(S.extract 1 2).size<=maxLen)/\(S.extract 2 6).size<=maxLen/\(S.extract 6 12).size<=maxLen):=⟨⟨i,j⟩,m,n⟩;clear i j m n;have a:Hid (At.dX S=(if At.right (Pl.de (S.extract 0 1)) (Pl.de (S.extract 1 2)) (Pl.de (S.extract 2 6)) (Pl.de (S.extract 6 12)) then 0 else 70)/\At.dA S=if At.dX S=0 then VA (Pl.de (S.extract 0 1)) (Pl.de (S.extract 1 2)) (Pl.de (S.extract 2 6)) (Pl.de (S.extract 6 12)) else VA 0 0 0 0):=by
   refine⟨?_,?_⟩
   ·unfold At.dX At.k At.l At.s At.t
    rw[MC h12,h12]
   ·unfold At.dA At.k At.l At.s At.t
    rw[h12]
  go_enter Tryz.func152,Tryz.ntmps152;go_wp2
  go_region_held3 (λ_=>True) (trivial) (first
   | (go_at_call_of 175 (Value.string (S.extract 0 1));refine (oG _ _ c.out.1.1).mono ?_;rintro e g ⟨rfl,rfl⟩)
   | (go_at_call_of 175 (Value.string (S.extract 1 2));refine (oG _ _ c.out.1.2).mono ?_;rintro e g ⟨rfl,rfl⟩)
   | (go_at_call_of 175 (Value.string (S.extract 2 6));refine (oG _ _ c.out.2.1).mono ?_;rintro e g ⟨rfl,rfl⟩)
   | (go_at_call_of 175 (Value.string (S.extract 6 12));refine (oG _ _ c.out.2.2).mono ?_;rintro e g ⟨rfl,rfl⟩))
  all_goals
   generalize Pl.de (S.extract 0 1)=k at a |-;generalize Pl.de (S.extract 1 2)=l at a |-;generalize Pl.de (S.extract 2 6)=s at a |-;generalize Pl.de (S.extract 6 12)=t at a |-
   by_cases hr:At.right k l s t=true
   ·have h : Hid (At.right k l s t=true) := hr
    have H:Hid (At.dA S=VA k l s t/\At.dX S=0):=by
     have b:=a.out.1;rw[MC hr]at b;have d:=a.out.2;rw[b,MC rfl]at d;exact⟨d,b⟩
    clear hr a c;go_wp2_with fail;refine (dF k l s t _ h).mono ?_;rintro e g ⟨rfl,rfl⟩;go_wp2;refine MK (v:=.tuple #[VA k l s t,.int .i64 0]) (by simp[results,Tryz.results152,go_sem]) rfl ⟨?_,?_⟩
    ·rw[H.out.1,H.out.2]
    ·exact (((qG _ _).alloc qs _).drew).alloc qt _
   ·have f : At.right k l s t=false := by simpa using hr
    have h:=hH f;have H:Hid (At.dA S=VA 0 0 0 0/\At.dX S=70):=by
     have b:=a.out.1;rw[ME hr]at b;have d:=a.out.2;rw[b,ME qd]at d;exact⟨d,b⟩
    clear hr f a c;go_wp2_with fail;refine (jQ k l s t _ h).mono ?_;rintro e g ⟨rfl,rfl⟩;go_wp2;refine MK (v:=.tuple #[VA 0 0 0 0,.int .i64 70]) (by simp[results,Tryz.results152,go_sem]) rfl ⟨?_,?_⟩
    ·rw[H.out.1,H.out.2]
    ·exact (((qG _ _).alloc qs _).drew).alloc qt _
 ·have H : Hid (At.dA S=VA 0 0 0 0 ∧ At.dX S=4) := ⟨by simp[At.dA,At.dX,h12],by simp[At.dX,h12]⟩
  have o:=MQ.2 qo;clear h12;rw[H.out.1,H.out.2];go_enter Tryz.func152,Tryz.ntmps152;go_wp2;exact MK (v:=.tuple #[VA 0 0 0 0,.int .i64 4]) (by simp[results,Tryz.results152,go_sem]) rfl ⟨rfl,qG _ _⟩
end Go.Proofs.YtiifhfmekbhlnaaGreat.Ks.Rs
