/- Part 4. -/
import Derived.OrdersHeld
import Derived.RangeFuncNested
import Derived.RangeFuncBound
import Derived.RangeFuncCalls
import Derived.RangeFuncLeaves
import Derived.Shelf.Abstract
import Derived.Shelf.RegionOpen
import Derived.OwnWalkIn
import Derived.TacticsInMore
import Derived.LoopNIn
import Derived.LoopIn
import Derived.Test.YtiifhfmekbhlnaaGreatH3
set_option maxHeartbeats 8000000
set_option maxRecDepth 100000
namespace Go.Proofs.YtiifhfmekbhlnaaGreat
section
open It
namespace Sp
def oO (L:List cL) (no:Int):Int:=((L[no.toNat]?).getD gU).cH
def rV (L:List cL):Int:=((L[0]?).getD gU).gen
def gm (L:List cL) (k:Nat):List ((Int × Int) × Int):=((used L).take k).foldl (λM h=>km M h (oO L h.1)) []
def start (L:List cL):List ((Int × Int) × Int):=km (gm L (used L).length) (0,rV L) 0
theorem zN {L:List cL}{k:Nat}{h:Int × Int}(hk:(used L)[k]?=some h):gm L (k+1)=km (gm L k) h (oO L h.1):=by
 unfold gm;rw[NF,hk,Option.toList_some,List.foldl_append];rfl
def vl (M:List ((Int × Int) × Int)):List En->Option (List ((Int × Int) × Int))
 | []=>some M
 | e::r=>if iN M e.2.2=0 then none else vl (km M e.2.2 (iN M e.2.2-1)) r
theorem qA (M:List ((Int × Int) × Int))(e:En)(r):vl M (e::r)=if iN M e.2.2=0 then none else vl (km M e.2.2 (iN M e.2.2-1)) r:=rfl
theorem pj:∀ (a b:List En) (M:List ((Int × Int) × Int)),vl M (a++b)=(vl M a).bind λM'=>vl M' b
 | [],b,M=>rfl
 | e::a,b,M => by
  rw[NU,qA,qA]
  by_cases h:iN M e.2.2=0
  ·rw[MC h,MC h]
   rfl
  ·rw[ME h,ME h]
   exact pj a b _
def oM (L:List cL):Bool:=match vl (start L) (dk L)with | some M=>M.all (λp=>p.2==0) | none=>false
def kr (L:List cL) (k j:Nat):List En:=dk (L.take k)++(dy L k).take j
theorem Bc (L)(k):kr L k 0=dk (L.take k):=by simp[kr]
theorem B4 {L:List cL}{k j:Nat}{e:En}(h:(dy L k)[j]?=some e):kr L k (j+1)=kr L k j++[e]:=by
 unfold kr;rw[NF,h];simp
theorem EY {L:List cL}{k j:Nat}(hk:k<L.length)(h:(dy L k).length=j):kr L k j=dk (L.take (k+1)):=by
 unfold kr dk;have a:dy L k=L[k].cE:=by simp[dy,List.getElem?_eq_getElem hk]
 rw[<-h,Ns,NF,MF hk,Option.toList_some,List.flatMap_append,a];simp
theorem EA {L:List cL}{k j:Nat}{e:En}(hk:k<L.length)(h:(dy L k)[j]?=some e):∃ r,dk L=kr L k j++e::r:=by
 have a:dk L=dk (L.take k)++(dy L k++dk (L.drop (k+1))):=by
  have b:L=L.take k++(L[k]::L.drop (k+1)):=by rw[<-Ob hk,Nj]
  have c:dy L k=L[k].cE:=by simp[dy,List.getElem?_eq_getElem hk]
  rw[c];unfold dk
  conv=>lhs;rw[b]
  rw[List.flatMap_append,N0]
 obtain⟨f,g⟩:=MN.1 h;have d:dy L k=(dy L k).take j++(e::(dy L k).drop (j+1)):=by
  rw[<-g,<-Ob f,Nj]
 refine⟨(dy L k).drop (j+1)++dk (L.drop (k+1)),?_⟩;rw[a,kr]
 conv=>lhs;rw[d]
 simp
theorem Kj {L:List cL}{k j:Nat}{e:En}{M:List ((Int × Int) × Int)}(hk:k<L.length)(h:(dy L k)[j]?=some e)(hm:vl (start L) (kr L k j)=some M)(h0:iN M e.2.2=0):oM L=false:=by
 obtain⟨r,a⟩:=EA hk h;unfold oM;rw[a,pj,hm];show (match vl M (e::r)with | some M=>M.all (λp=>p.2==0) | none=>false)=false;unfold vl;rw[MC h0]
theorem Jl {L:List cL}{k j:Nat}{e:En}{M:List ((Int × Int) × Int)}(h:(dy L k)[j]?=some e)(hm:vl (start L) (kr L k j)=some M)(h0:iN M e.2.2≠0):vl (start L) (kr L k (j+1))=some (km M e.2.2 (iN M e.2.2-1)):=by
 rw[B4 h,pj,hm];show vl M [e]=_;unfold vl;rw[ME h0];rfl
theorem IQ {L:List cL}{M:List ((Int × Int) × Int)}{n:Nat}(hn:L.length=n)(hm:vl (start L) (dk (L.take n))=some M):oM L=M.all (λp=>p.2==0):=by
 rw[<-hn,Ns]at hm;unfold oM;rw[hm]
def Small (M:List ((Int × Int) × Int)):Prop:=(M.map (·.1)).Nodup/\∀ p∈M,0<=p.2/\p.2<=64
theorem Small.nil:Small []:=⟨qs,λp a=>by cases a⟩
theorem Small.set {M:List ((Int × Int) × Int)}(h:Small M)(g:Int × Int){v:Int}(h0:0<=v)(h1:v<=64):Small (km M g v):=by
 obtain⟨b,c⟩:=kG h.1 g v;refine⟨b,λp d=>?_⟩;rcases (c p.1 p.2).1 d with⟨_,a⟩ | ⟨_,a⟩
 ·omega
 ·exact h.2 _ a
theorem Small.val {M:List ((Int × Int) × Int)}(h:Small M)(g:Int × Int):0<=iN M g/\iN M g<=64:=by
 by_cases hm:∃ u,(g,u)∈M
 ·obtain⟨u,a⟩ := hm
  rw[l5 h.1 (p:=(g,u)) a];exact h.2 _ a
 ·rw[qO (λp b c => hm ⟨p.2,by rw[<-c];exact b⟩)]
  omega
theorem Gr {M:List ((Int × Int) × Int)}{g:Int × Int}(h:iN M g≠0):∃ i,jg M g 0=some (i,iN M g):=by
 unfold iN at h |-
 cases e:jg M g 0 with
 | none=>rw[e]at h;exact absurd rfl h
 | some q=>exact⟨q.1,rfl⟩
end Sp
namespace Sp
def Fj (L:List cL) (h:Int × Int):Nat:=(dk L).countP (λe=>e.2.2==h)
theorem yn:∀ (es:List En) (M M':List ((Int × Int) × Int)),(M.map (·.1)).Nodup->vl M es=some M'->(M'.map (·.1)).Nodup/\∀ h,iN M' h=iN M h-(es.countP (λe=>e.2.2==h):Nat)
 | [],M,M',hn,h=>by
  cases h
  exact⟨hn,λh=>by simp⟩
 | e::es,M,M',hn,h => by
  rw[qA]at h;split at h
  ·cases h
  ·obtain⟨h1,h2⟩:=yn es _ M' (kG hn _ _).1 h;refine⟨h1,λg=>?_⟩;rw[h2 g,qQ hn,N5]
   by_cases hg:g=e.2.2
   ·subst hg;simp;omega
   ·rw[ME hg];have:=MQ.2 (Ne.symm hg);simp[this]
theorem zK:∀ (es:List En) (M:List ((Int × Int) × Int)),(M.map (·.1)).Nodup->(∀ h,(es.countP (λe=>e.2.2==h):Int)<=iN M h)->∃ M',vl M es=some M'
 | [],M,_,_=>⟨M,rfl⟩
 | e::es,M,hn,h => by
  rw[qA];have h0:=h e.2.2;rw[N5]at h0;simp at h0;rw[ME qo];refine zK es _ (kG hn _ _).1 λg=>?_
  have hg:=h g;rw[N5]at hg;rw[qQ hn]
  by_cases hge:g=e.2.2
  ·subst hge;simp at hg |-;omega
  ·rw[ME hge];have:=MQ.2 (Ne.symm hge);simp[this]at hg;exact hg
theorem mR {L:List cL}(h:It.right L=true):∀ k,Small (gm L k):=by
 intro k;unfold gm;have c:∀ (l:List (Int × Int)) (M:List ((Int × Int) × Int)),Small M->(∀ g∈l,0<=oO L g.1/\oO L g.1<=64)->Small (l.foldl (λM h=>km M h (oO L h.1)) M):=by
  intro l
  induction l with
  | nil=>intro M d _;exact d
  | cons g l ih =>
   intro M d f;exact ih _ (d.set g (f g qs).1 (f g qs).2) λx b=>f x (N2 _ b)
 refine c _ _ Small.nil λg n=>?_
 obtain⟨i,x,b,j,-,-⟩:=dY.1 (kW.1 (List.mem_of_mem_take n));have a:=(It.cG.1 h).2.2 x (MG b);unfold oO;rw[j,show ((i:Int)).toNat=i by omega,b,NY];unfold one at a;simp only[Bool.and_eq_true]at a;rcases At.cG.1 a.2.1 with⟨_,m,_⟩ | ⟨_,_,⟨_,m⟩ | ⟨_,m⟩⟩ <;> omega
theorem zX {f:Int->Int}:∀ (l:List (Int × Int)) (M:List ((Int × Int) × Int)),(M.map (·.1)).Nodup->∀ g,iN (l.foldl (λM h=>km M h (f h.1)) M) g=if g∈l then f g.1 else iN M g
 | [],M,_,g=>by simp
 | h::l,M,hn,g => by
  rw[O0,zX l _ (kG hn _ _).1 g,qQ hn]
  by_cases h1:g∈l
  ·rw[MC h1,MC (N2 _ h1)]
  ·rw[ME h1]
   by_cases h2:g=h
   ·rw[MC h2,MC (by rw[h2];simp),h2]
   ·rw[ME h2,ME (λhm=>by rcases Ni.1 hm with h3 | h3;exact h2 h3;exact h1 h3)]
theorem Ap {L:List cL}(h:It.right L=true):((start L).map (·.1)).Nodup:=(kG (mR h _).1 _ _).1
theorem oE {L:List cL}(h:It.right L=true)(g:Int × Int):iN (start L) g=if g=(0,rV L) then 0 else if names L g.1 g.2=true then oO L g.1 else 0:=by
 unfold start;rw[qQ (mR h _).1]
 by_cases h1:g=(0,rV L)
 ·rw[MC h1,MC h1]
 ·rw[ME h1,ME h1];unfold gm;rw[Ns,zX (f:=oO L) _ _ qs];have a:=kW (L:=L) (no:=g.1) (gen:=g.2)
  by_cases h2:names L g.1 g.2=true
  ·rw[MC (a.2 h2),MC h2]
  ·rw[ME (λb=>h2 (a.1 b)),ME h2];rfl
theorem oe {L:List cL}(h:It.right L=true):oM L=true ↔ ∀ g,(Fj L g:Int)=iN (start L) g:=by
 have c:=Ap h;constructor
 ·intro a g;unfold oM at a
  cases b:vl (start L) (dk L)with
  | none=>rw[b]at a;cases a
  | some M =>
   rw[b]at a;obtain⟨d,f⟩:=yn _ _ M c b;have j:=f g;have k:iN M g=0:=by
    by_cases hm:∃ u,(g,u)∈M
    ·obtain⟨u,l⟩:=hm;rw[l5 d (p:=(g,u)) l];have:=Ok.1 a _ l;simpa using this
    ·exact qO (λp i m=>hm ⟨p.2,by rw[<-m];exact i⟩)
   unfold Fj;omega
 ·intro a;obtain⟨M,b⟩:=zK (dk L) (start L) c (λg=>by have:=a g;unfold Fj at this;omega);obtain⟨d,f⟩:=yn _ _ M c b;unfold oM;rw[b];refine Ok.2 λp i=>?_
  have j:=f p.1;have k:=a p.1;unfold Fj at k;rw[l5 d i]at j;simp;omega
theorem C2 {L:List cL}{p:Nat}{e:En}(h:e∈dy L p):e∈dk L:=by
 unfold dy at h;split at h
 ·rename_i x hx
  exact Ou.2 ⟨x,MG hx,h⟩
 ·cases h
theorem CZ {L:List cL}{e:En}(h:e∈dk L):∃ (p:Nat) (x:cL),L[p]?=some x/\e∈x.cE:=by
 obtain⟨x,a,b⟩:=Ou.1 h;obtain⟨p,c⟩:=M1.1 a;exact⟨p,x,c,b⟩
theorem nt {L:List cL}(h:It.right L=true){p:Nat}{x:cL}(hx:L[p]?=some x){e:En}(he:e∈x.cE):x.kind=2:=by
 have a:=(It.cG.1 h).2.2 x (MG hx);unfold one at a;simp only[Bool.and_eq_true]at a
 by_cases hk:x.kind=2
 ·exact hk
 ·have b:=a.2.2;rw[ME hk]at b;split at b
  ·simp only[Bool.and_eq_true,List.isEmpty_iff]at b;rw[b.1.1.1]at he
   cases he
  ·simp only[Bool.and_eq_true,List.isEmpty_iff]at b;rw[b.1.1]at he
   cases he
theorem rr {L:List cL}(h:It.right L=true){p:Nat}{x:cL}(hx:L[p]?=some x)(hk:x.kind=2):x.cH=1:=by
 have a:=(It.cG.1 h).2.2 x (MG hx);unfold one at a;simp only[Bool.and_eq_true]at a;rcases At.cG.1 a.2.1 with⟨b,_⟩ | ⟨_,_,⟨b,_⟩ | ⟨_,b⟩⟩
 ·omega
 ·omega
 ·exact b
theorem jN {L:List cL}(h:It.right L=true)(hc:oM L=true) {e:En} (he:e∈dk L):names L e.2.2.1 e.2.2.2=true/\e.2.2.1≠0/\1<=oO L e.2.2.1:=by
 have a:=(oe h).1 hc e.2.2;have j:0<Fj L e.2.2:=List.countP_pos_iff.2 ⟨e,he,by simp⟩;rw[oE h]at a
 by_cases h3:e.2.2=(0,rV L)
 ·rw[MC h3]at a;omega
 ·rw[ME h3]at a
  by_cases h4:names L e.2.2.1 e.2.2.2=true
  ·rw[MC h4]at a;refine⟨h4,λg=>h3 ?_,qo⟩;obtain⟨i,x,c,d,f,_⟩:=dY.1 h4;have b:i=0:=qo
   subst b;unfold rV;rw[c,NY,f,<-g]
  ·rw[ME h4]at a;omega
theorem yo {L:List cL}(h:It.right L=true)(hf:oV L)(hc:oM L=true):Tree L:=by
 refine⟨λp e n=>?_,λc o=>?_,?_⟩
 ·obtain⟨a,d,_⟩:=jN h hc (C2 n);obtain⟨i,x,b,s,_,_⟩:=dY.1 a;have B:=(qM b);refine⟨qo,qo,?_,d⟩;obtain⟨q,y,t,f⟩:=CZ (C2 n);obtain⟨⟨_,g,_⟩,_⟩:=hf y (MG t) (nt h t f);obtain⟨j,u⟩:=M1.1 f;exact (g j (qM u) e u).1.2.1
 ·have r:=l9 o;have b:=MF r;have v:L[c].kind=2:=by
   unfold eu at o;rw[b]at o;simpa using o
  have w:(dk L).countP (ny c)=Fj L ((c:Int),L[c].gen):=by
   unfold Fj;refine List.countP_congr λe n=>?_
   obtain⟨a,_,_⟩:=jN h hc n;obtain⟨i,x,k,s,A,_⟩:=dY.1 a;simp only[ny,beq_iff_eq];constructor
   ·intro d;have:i=c:=qo
    subst this;rw[b]at k
    cases k
    exact Prod.ext d A.symm
   ·intro d;rw[d]
  have a:=(oe h).1 hc ((c:Int),L[c].gen);rw[w];rw[oE h]at a;have z:oO L (c:Int)=1:=by
   unfold oO;rw[show ((c:Int)).toNat=c by omega,b,NY];exact rr h b v
  simp only[z]at a;split at a
  ·omega
  ·split at a <;> omega
 ·have m:=(It.cG.1 h).2.1;unfold ql at m
  cases L with
  | nil=>cases m
  | cons x l =>
   simp at m;simp[eu,m]
theorem ew {L:List cL}(h:It.right L=true):1<=L.length/\L.length<=24:=(It.cG.1 h).1
theorem u7 (L):L.countP (λx=>x.kind==2)=(vM L).length:=by
 unfold vM;rw[List.countP_eq_length_filter];have b:∀ (l:List cL),((List.range l.length).filter (eu l)).length=(l.filter (λx=>x.kind==2)).length:=by
  intro l;have e:(List.range l.length).map (λi=>l[i]?.getD gU)=l:=by
   refine OL λi=>?_
   rw[Nh]
   by_cases a:i<l.length
   ·rw[List.getElem?_range a];simp[List.getElem?_eq_getElem a]
   ·rw[Ot (by simpa using a),Ot qo];rfl
  conv=>rhs;rw[<-e]
  rw[List.filter_map,M8]
  congr 1
  refine OA λi a=>?_
  have:=O8.1 a;simp[eu,List.getElem?_eq_getElem this]
 exact (b L).symm
def uk (L:List cL):Bool:=(((walk L 24 0 ⟨#[]⟩).length:Int)-(L.countP (λx=>x.kind==2):Nat))==0
theorem mQ {L:List cL}(ht:Tree L)(hL:L.length<=24):uk L=true ↔ ∀ c,eu L c=true->∃ d,kj L d 0 c:=by
 unfold uk;rw[<-Ie ht hL ⟨#[]⟩,u7];simp;omega
noncomputable def cZ (L:List cL):Bool:=It.right L&&(lU L&&(oM L&&uk L))
open Classical in
theorem vd {L:List cL}:lU L=true ↔ oV L:=by
 unfold lU;exact OX
theorem ei {L:List cL}:cZ L=true ↔ It.right L=true/\oV L/\oM L=true/\uk L=true:=by
 unfold cZ;simp only[Bool.and_eq_true,vd]
theorem l4 {L:List cL}(h:cZ L=true):Tree L:=by
 obtain⟨a,b,c,_⟩:=ei.1 h;exact yo a b c
theorem DG {L:List cL}(h:cZ L=true){k:Nat}(hk:k<L.length):deep L 24 k:=by
 obtain⟨b,j,l,g⟩:=ei.1 h;have c:=l4 h
 cases hd:eu L k with
 | true =>
  obtain⟨d,i⟩:=(mQ c (ew b).2).1 g k hd;exact Aj c (ew b).2 i hk
 | false =>
  refine Em hk ?_;have a:=MF hk
  cases he:dy L k with
  | nil=>rfl
  | cons e r =>
   have f:e∈L[k].cE:=by
    unfold dy at he;rw[a]at he;simp only at he;rw[he];simp
   have:=nt b a f;unfold eu at hd;rw[a]at hd;simp[this]at hd
end Sp
end
section
namespace Late
variable {P:Program} {ops:Array Oper} {Q:Exit->Act->World->Prop} {md:Region.Mode} {S:World->Prop} {k:Nat}
def any (P:Program) (md:Region.Mode) (ops:Array Oper) (Q:Exit->Act->World->Prop) (S:World->Prop) (k:Nat):Nat->Array Bool->Act->World->Prop
 | 0,l,a,w=>Region.ready md ops l=[]/\Q .normal a w
 | n+1, l, a, w => (Region.ready md ops l=[] → Q .normal a w) ∧
  ∀ i∈Region.ready md ops l,wpOp P ops Q i (λb v=>(i≠k->S v)/\any P md ops Q S k n (l.setIfInBounds i true) b v) a w
theorem Dy:∀ (n:Nat) (l:Array Bool) (a:Act) (w:World),any P md ops Q S k n l a w->wpAny P md ops Q n l a w:=by
 intro n
 induction n with
 | zero=>exact λ_ _ _ h=>h
 | succ n ih=>exact λl a w h=>⟨h.1,λi c=>wpOp_mono (λb v d=>ih _ b v d.2) (h.2 i c)⟩
def waits (md:Region.Mode) (ops:Array Oper) (k i:Nat):Bool:=((ops[k]?).map λo=>o.after.any λe=>Region.binds md e&&e.on==i).getD false
theorem I9 {i j:Nat}{l:Array Bool}(hw:waits md ops k i=true)(hi:i∈Region.ready md ops l)(hj:j∈Region.ready md ops l):j≠k:=by
 intro e;subst e;unfold waits at hw;obtain⟨_,o,h,a⟩:=mem_ready.1 hj;rw[h]at hw;simp only[Option.map_some,Option.getD_some,Array.any_eq_true']at hw;obtain⟨d,m,c⟩:=hw;simp only[Bool.and_eq_true,beq_iff_eq]at c;have b:=a d m c.1;have f:=(mem_ready.1 hi).1;rw[c.2]at b;have g:l.getD i true=l.getD i false:=by
  by_cases hlt:i<l.size
  ·simp[hlt]
  ·simp[Array.getElem?_eq_none (Nat.le_of_not_lt hlt)]at b
 rw[g,b]at f
 cases f
theorem before {i : Nat}{oi : Oper}{v : Value}(hi : ops[i]?=some oi)(hsel : Region.noSelect ops=true)(hw : waits md ops k i=true)(hQ:∀ c a w,Q (.panic c) (a.put oi.dst v) w->Q (.panic c) a w) :
  ∀ (n : Nat) (l : Array Bool) (a : Act) (w : World),
   (∀ j oj,ops[j]?=some oj->j≠i->l.getD j true=false->(∀ e∈oj.after,Region.binds md e=true->e.on≠i)->oi.apart ops oj=true) ->
   i∈Region.ready md ops l->YieldsIf P ops S oi v a->S w->any P md ops Q S k n (l.setIfInBounds i true) (a.put oi.dst v) w->any P md ops Q S k (n+1) l a w:=by
 intro n
 induction n with
 | zero =>
  intro l a w _ g B r s;refine⟨λh=>absurd g (by rw[h];simp),λj z=>?_⟩
  by_cases e:j=i
  ·subst e;exact B.wpOp hi r ⟨λ_=>r,s⟩
  ·exact absurd (ready_mono z e) (by rw[s.1];simp)
 | succ n ih =>
  intro l a w t g B r s;refine⟨λh=>absurd g (by rw[h];simp),λj z=>?_⟩
  by_cases e:j=i
  ·subst e;exact B.wpOp hi r ⟨λ_=>r,s⟩
  ·have o := I9 hw g z
   obtain⟨x,oj,f,y⟩:=mem_ready.1 z;have C:∀ d∈oj.after,Region.binds md d=true->d.on≠i:=by
    intro d I m D;have p:=y d I m;have H:=(mem_ready.1 g).1;rw[D]at p
    by_cases hlt:i<l.size
    ·simp[hlt]at H p
     rw[H]at p
     cases p
    ·simp[Array.getElem?_eq_none (Nat.le_of_not_lt hlt)]at p
   refine wpOp_mono (λb u m=>⟨λ_=>m.2.1 o,?_⟩) (wpOp_putIf f (t j oj f e x C) (λE b=>Region.noSelect_spec hsel i oi E b hi) (λE b=>Region.noSelect_spec hsel j oj E b f) hQ B (s.2 j (ready_mono z e)));refine ih (l.setIfInBounds j true) b u (λq J K F A G=>t q J K F ?_ G) (ready_mono g (Ne.symm e)) m.1 (m.2.1 o) ?_
   ·by_cases hjq : j=q
    ·subst hjq;exact x
    ·rw[getD_set_ne true hjq]at A;exact A
   ·rw[Pj _ _ e]
    exact m.2.2
def x9 (Q:Exit->Act->World->Prop):Exit->Act->World->Prop:=λe a w=>e=.normal/\Q .normal a w
theorem take (i:Nat){oi:Oper}(v:Value){n:Nat}{l:Array Bool}{a:Act}{w:World}(hi:ops[i]?=some oi)(hsel:Region.noSelect ops=true)(hw:waits md ops k i=true)(hf:Region.free md ops l i=true)(hr:(Region.ready md ops l).contains i=true)(hg:oi.guard=none)(hy:∀ w,S w->(execOp a.eval oi).run P w=.ok (.value v) w)(hS:S w)(h:any P md ops (x9 Q) S k n (l.setIfInBounds i true) (a.put oi.dst v) w):any P md ops (x9 Q) S k (n+1) l a w :=
 before hi hsel hw (λ_ _ _ h=>by cases h.1) n l a w (Region.free_spec hi hf) (by simpa using hr) (.inl ⟨by simp[Region.wanted,hg],hy⟩) hS h
theorem one (i:Nat){oi:Oper}{n:Nat}{l:Array Bool}{a:Act}{w:World}(hi:ops[i]?=some oi)(hr:Region.ready md ops l=[i])(hg:oi.guard=none)(h:oi.wp P a w (λb v=>(i≠k->S v)/\any P md ops (x9 Q) S k n (l.setIfInBounds i true) b v) (x9 Q)):any P md ops (x9 Q) S k (n+1) l a w:=by
 refine⟨λd=>absurd (hr.symm.trans d) qs,λj c=>?_⟩;rw[hr]at c;obtain rfl:j=i:=by simpa using c
 unfold wpOp;rw[hi];simp only[show Region.wanted oi (yielded ops a.tmps)=true by simp[Region.wanted,hg],if_true];exact .inl h
theorem done {l:Array Bool}{a:Act}{w:World}(hr:Region.ready md ops l=[])(h:Q .normal a w):any P md ops (x9 Q) S k 0 l a w:=⟨hr,rfl,h⟩
theorem start {id:Nat}{a:Act}{w:World}(S:World->Prop)(k)(hm:P.follows .mixedOrders=true)(h:any P .any ops (x9 Q) S k ops.size (Array.replicate ops.size false) a w.drew):(Code.region id ops true).wp P Q a w :=
 wp_mono (NX hm (Dy _ _ _ _ h)) (λe a w b=>by obtain⟨rfl,h⟩:=b;exact h)
end Late
end
section
open RowKit
variable {α:Type} {P:Program}
def iK (Bx:Nat) (W:World) (k:Nat):Prop:=k=Bx\/∃ v,W.cell? ⟨Bx,0,none⟩=some v/\v.ownBlock=some k
def gz (Bx:Nat) (W:World):Prop:=∃ v,W.cell? ⟨Bx,0,none⟩=some v/\∀ k,v.ownBlock=some k->k<W.1.size
structure Kp (Bx:Nat) (W W':World):Prop where
 os:W'.os=W.os
 tape:W'.tape=W.tape
 output:W'.output=W.output
 size:W.1.size<=W'.1.size
 box:gz Bx W->gz Bx W'
 gJ:∀ k,k<W.1.size->¬ iK Bx W k->W'.1[k]?=W.1[k]?
 js:∀ k,k<W.1.size->iK Bx W' k->iK Bx W k
 others:∀ (k:Nat) (o:Obj),W.1[k]?=some o->o.isCells=false->W'.1[k]?=some o
theorem gz.lt {Bx:Nat}{W:World}(h:gz Bx W):Bx<W.1.size:=by
 obtain⟨v,a,-⟩:=h;exact Nk _ _ a
theorem kD {Bx:Nat}{W W':World}(h:W'.1[Bx]?=W.1[Bx]?)(k):iK Bx W' k ↔ iK Bx W k:=by
 unfold iK;rw[World.cell?_of_block (a:=⟨Bx,0,none⟩) h]
theorem gz.up {Bx:Nat}{W W':World}(hb:gz Bx W)(h:W'.1[Bx]?=W.1[Bx]?)(hs:W.1.size<=W'.1.size):gz Bx W':=by
 obtain⟨v,b,c⟩:=hb;exact⟨v,(World.cell?_of_block (a:=⟨Bx,0,none⟩) h).trans b,λk e=>M6 (c k e) hs⟩
theorem gz.new {Bx:Nat}{W W':World}(hb:gz Bx W)(hg:W.grownBy W' none){k:Nat}(hk:W.1.size<=k):¬ iK Bx W' k:=by
 have a:=hb.lt;rw[kD (hg.block Bx a qs)];obtain⟨v,c,d⟩:=hb;rintro (rfl | ⟨u,b,f⟩)
 ·omega
 ·rw[c]at b
  cases b
  have:=d k f;omega
theorem Kp.refl (Bx)(W):Kp Bx W W:=⟨rfl,rfl,rfl,qn,id,λ_ _ _=>rfl,λ_ _ h=>h,λ_ _ h _=>h⟩
theorem Kp.trans {Bx:Nat}{X Y Z:World}(h:Kp Bx X Y)(k:Kp Bx Y Z):Kp Bx X Z :=
 ⟨k.os.trans h.os,k.tape.trans h.tape,k.output.trans h.output,MS h.size k.size,λb=>k.box (h.box b),
  λi a d=>(k.gJ i (M6 a h.size) (λc=>d (h.js i a c))).trans (h.gJ i a d),
  λi a c=>h.js i a (k.js i (M6 a h.size) c),λi o a f=>k.others i o (h.others i o a f) f⟩
theorem Kp.still {Bx:Nat}{W W':World}(hb:gz Bx W)(hg:W.grownBy W' none):Kp Bx W W' :=
 have e:=hg.block Bx hb.lt qs
 ⟨hg.os,hg.tape,hg.output,hg.size,λh=>h.up e hg.size,λk a _=>hg.block k a qs,λk _ b=>(kD e k).1 b,
  λk o a _=>(hg.block k (qL a) qs).trans a⟩
theorem Kp.cell {Bx:Nat}{W W':World}(h:Kp Bx W W'){k o:Nat}(hn:¬ iK Bx W k)(hk:k<W.1.size):W'.cell? ⟨k,o,none⟩=W.cell? ⟨k,o,none⟩ :=
 World.cell?_of_block (a:=⟨k,o,none⟩) (h.gJ k hk hn)
theorem Kp.safe {Bx:Nat}{W W':World}(h:Kp Bx W W'){k:Nat}(hn:¬ iK Bx W k)(hk:k<W.1.size):¬ iK Bx W' k:=λa=>hn (h.js k hk a)
theorem Ch {β:Type}{Bx B:Nat}{W0:World}(hb:gz Bx W0)(hB:W0.1.size<=B):OwnFrom B (λ(_:β) W=>Kp Bx W0 W):=λ_ W p i h c j=>by
 have d:∀ k,k<W0.1.size->some k≠i:=λk a e=>by have:=(j k e.symm).1;omega
 have f:=hb.lt;have e:=c.block Bx (M6 f h.size) (d Bx f);refine⟨c.os.trans h.os,c.tape.trans h.tape,c.output.trans h.output,MS h.size c.size,λb=>(h.box b).up e c.size,
  λk a l=>(c.block k (M6 a h.size) (d k a)).trans (h.gJ k a l),λk a m=>h.js k a ((kD e k).1 m),λk o a n=>?_⟩
 have g:=(qL a);exact (c.block k (M6 g h.size) (d k g)).trans (h.others k o a n)
theorem G9 {Bx l:Nat}{W W3:World}{r r':Loop}(hne:Bx≠l) (hl:W.heap[l]?=some (.loop r)) (h:Kp Bx (W.putObj l (.loop r')) W3):Kp Bx W (W3.putObj l (.loop r)):=by
 have d:(W.putObj l (.loop r')).1[Bx]?=W.heap[Bx]?:=World.putObj_heap_other hne;have g:(W3.putObj l (.loop r)).1[Bx]?=W3.1[Bx]?:=World.putObj_heap_other hne;have i:W.1.size<=W3.1.size:=by have:=h.size;rwa [World.putObj_size]at this
 have c:=M6 (qL hl) i;refine⟨h.os,h.tape,h.output,by rw[World.putObj_size];exact i,λb=>(h.box (b.up d (by rw[World.putObj_size];exact MI _))).up g (by rw[World.putObj_size];exact MI _),λk a j=>?_,λk a f=>?_,λk o a m=>?_⟩
 ·by_cases e:k=l
  ·subst e;rw[World.putObj_heap_same c,hl]
  ·rw[World.putObj_heap_other e,h.gJ k (by rw[World.putObj_size];exact a) (λf=>j ((kD d k).1 f)),World.putObj_heap_other e]
 ·exact (kD d k).1 (h.js k (by rw[World.putObj_size];exact a) ((kD g k).1 f))
 ·by_cases e:k=l
  ·subst e;rw[hl]at a
   cases a
   exact World.putObj_heap_same c
  ·rw[World.putObj_heap_other e];exact h.others k o (by rw[World.putObj_heap_other e];exact a) m
def Yields (P:Program) (l:Nat) (encs:α->Array Value) (Bx:Nat) (xs:List α) (J Jx:List α->World->Prop):Prop :=
 ∀ (m:Nat) (pre:List α) (x:α) (W:World),pre++[x] <+: xs->J pre W->YieldAt Fence.wide m P l (encs x) W λe W' =>
  (e=.returned (.bool true)/\J (pre++[x]) W'/\Kp Bx W W')\/(e=.returned (.bool false)/\Jx (pre++[x]) W'/\KeepsFrom (l+1) W W')
def uj (P:Program) (g:Nat) (lb:Array Value) (encs:α->Array Value) (Bx:Nat) (xs:List α) (w:World):Prop :=
 ∀ (n l:Nat) (J Jx:List α->World->Prop) (W:World),w.grownBy W none->l<W.1.size->OwnFrom W.1.size J->OwnFrom W.1.size Jx->Yields P l encs Bx xs J Jx->J [] W ->
  CallsIn Fence.wide n P g (#[.func (.yield l) #[] #[]]++lb) W λe W'=>(∃ v,e=.returned v)/\(J xs W'\/∃ pre,pre <+: xs/\Jx pre W')
def Kr (B Bx:Nat) (I Ix:List α->World->Prop) (xs:List α) (W:World):Exit->Act->World->Prop
 | .normal,_,W'=>Kp Bx W W'/\I xs W'
 | .ret,_,W'=>KeepsFrom B W W'/\Ix xs W'
 | _,_,_=>False
theorem rJ {g:Operand}{ps:Array Tmp}{assign body:Code}{Q:Exit->Act->World->Prop}{a:Act}{w:World}{n gf:Nat}{lb:Array Value}{encs:α->Array Value}{Bx:Nat}{xs:List α}(hg:a.eval g=.func (.func gf) #[] lb)(eg:∀ args w,(callFunc gf args).run P w=.ok (.enter gf args) w)(hbx:gz Bx w)(hseq:uj P gf lb encs Bx xs w)(hps:∀ x,(encs x).size=ps.size)(I Ix:List α->World->Prop)(hI:OwnFrom w.1.size I)(hIx:OwnFrom w.1.size Ix)(h0:I [] w)(a₁:α->Act)(hassign:∀ (l m:Nat)(x:α)(W:World)(K:Act->World->Prop),K (a₁ x) W->assign.wpIn (Fence.wide.inRound l) m P (Exit.then K (λ_ _ _=>False)) { tmps:=(ps.zip (encs x)).foldl (λt (p,v)=>t.setIfInBounds p v) a.tmps,defers:=[] } W)(hbody:∀ (l m:Nat)(pre:List α)(x:α)(W:World),w.1.size<=l->pre++[x] <+: xs->I pre W->body.wpIn (Fence.wide.inRound l) m P (Kr w.1.size Bx I Ix (pre++[x]) W) (a₁ x) W)(hdone:∀ (D)(W),w.1.size<=D->I xs W->W.1[D]?=some (.deferred (some []))->Q .normal { a with defers:={ target:=.collected D,args:=#[] } :: a.defers } W)(hstop:∀ (D)(pre:List α)(W),w.1.size<=D->pre <+: xs->Ix pre W->W.1[D]?=some (.deferred (some []))->Code.ret.wpIn Fence.wide n P Q { a with defers:={ target:=.collected D,args:=#[] } :: a.defers } W) :
  (Code.rangeFunc g ps assign body).wpIn Fence.wide n P Q a w:=by
 refine wpIn_rangeFunc λfn ad=>?_
 obtain⟨D,T⟩:=qE w.1.size;obtain⟨c,b⟩:∃ c:LoopState->Option Code->Loop,c=λst pe=>{ state:=st,pending:=pe,fn,tmps:=a.tmps,params:=ps,assign,body,defers:=w.1.size }:=⟨_,rfl⟩
 obtain⟨V,M⟩:=qE ((w.alloc (.deferred (some []))).alloc (.loop (c .ready none)));have G:w.grownBy V none:=by rw[<-M];exact cQ (MU w _ none) (MU _ _ none)
 have ag:V.1.size=D+2:=by rw[<-M];simp[T]
 have U:V.1[D+1]?=some (.loop (c .ready none)):=by
  rw[<-M];have:=World.alloc_heap_new (w.alloc (.deferred (some []))) (.loop (c .ready none))
  rwa [NV,T]at this
 have X:V.1[D]?=some (.deferred (some [])):=by
  rw[<-M,<-T];exact (ML _ _ _ qs).trans (World.alloc_heap_new w _)
 have ah:=hbx.lt;have Y:Bx≠D+1:=qo
 refine⟨D+1,[{ target:=.collected D,args:=#[] }],V,{ target:=.fn (.func gf) lb,args:=#[.func (.yield (D+1)) #[] #[]] },V,gf,#[.func (.yield (D+1)) #[] #[]]++lb,V,?_,?_,λ_ _=>trivial,?_,λh=>(by cases h),?_⟩
 ·rw[<-M,b,<-T];exact run_enterLoop_outer _ _ _ _ _
 ·simp only[resolve,hg];simp[go_sem]
 ·simp[invoke,go_sem,eg]
 have y:∀ {K:List α->World->Prop} {r:Loop},OwnFrom w.1.size K->OwnFrom V.1.size (λpre W=>K pre W/\W.1[D+1]?=some (.loop r)/\W.1[D]?=some (.deferred (some []))):=λhK s A B af S E j=>by
  refine⟨hK s A B af S.1 E (λr e=>?_),?_,?_⟩
  ·obtain⟨h1,h2⟩:=j r e;exact⟨qo,h2⟩
  ·rw[E.block (D+1) (qL S.2.1) (λe=>by have:=(j _ e.symm).1;omega)];exact S.2.1
  ·rw[E.block D (qL S.2.2) (λe=>by have:=(j _ e.symm).1;omega)];exact S.2.2
 refine (hseq (n-1) (D+1) (λpre W=>I pre W/\W.1[D+1]?=some (.loop (c .ready none))/\W.1[D]?=some (.deferred (some [])))
  (λpre W=>Ix pre W/\W.1[D+1]?=some (.loop (c .done (some .ret)))/\W.1[D]?=some (.deferred (some []))) V G (by omega) (y hI) (y hIx) ?_ ⟨?_,U,X⟩).mono ?_
 ·rintro m pre x W ac ⟨N,u,O⟩;have Z:=run_yield (P:=P) (args:=encs x) u (by rw[b];exact hps x);rw[b]at Z;have aa:=(qL u);refine⟨fn,_,assign,body,Z,roundIn_of_wpIn ad (hassign _ _ x W _ ⟨_,run_beginRound u (by rw[b]),?_⟩)⟩;clear Z;have H:(W.putObj (D+1) (.loop { c .ready none with state:=.busy })).1[D+1]?=some (.loop { c .ready none with state:=.busy }):=World.putObj_heap_same aa;have J:(W.putObj (D+1) (.loop { c .ready none with state:=.busy })).1[D]?=some (.deferred (some [])):=(World.putObj_heap_other (by omega)).trans O;refine wpIn_mono (hbody _ _ pre x _ qo ac (hI.putObj _ N qo u rfl)) ?_;rintro e a3 W3 F
  cases e with
  | normal =>
   obtain⟨f,C⟩:=F;have i:=f.others _ _ H rfl;have j:=run_endRound (P:=P) none i;have q:=(qL i);have z:=f.others _ _ J rfl;have L:=G9 (r:=c .ready none) Y u f;have d:=hI.putObj (.loop (c .ready none)) C qo i rfl;rw[b]at j L d |-;exact⟨_,_,j,.inl ⟨rfl,⟨d,World.putObj_heap_same q,(World.putObj_heap_other qo).trans z⟩,L⟩⟩
  | ret =>
   obtain⟨f,C⟩:=F;have i:=f.same _ _ qo H rfl;have j:=run_endRound (P:=P) (some .ret) i;have q:=(qL i);have z:=f.same _ _ qo J rfl;have d:=hIx.putObj (.loop (c .done (some .ret))) C qo i rfl;have ab:∀ o',KeepsFrom (D+1+1) W (W3.putObj (D+1) o'):=λo'=>⟨by
    have:=f.size;rw[World.putObj_size]at this |-;exact this,λk o hB h1 h2=>by
    rw[World.putObj_heap_other qo];exact f.same k o qo (by rw[World.putObj_heap_other qo];exact h1) h2⟩
   rw[b]at j d |-;exact⟨_,_,j,.inr ⟨rfl,⟨d,World.putObj_heap_same q,(World.putObj_heap_other qo).trans z⟩,ab _⟩⟩
  | exit id=>exact F.elim
  | goto t=>exact F.elim
  | panic ch=>exact F.elim
  | outgrown=>exact F.elim
 ·exact hI [] w V none h0 G (λr e=>by cases e)
 ·rintro e W2 ⟨⟨v,rfl⟩,(⟨N,u,O⟩ | ⟨pre,R,N,u,O⟩)⟩
  ·have j:=run_endLoop (P:=P) u (by rw[b];simp);have d:=hI.putObj (.loop { c .ready none with state:=.exhausted }) N qo u rfl;rw[b]at j d;exact⟨none,_,j,hdone D _ qo d ((World.putObj_heap_other qo).trans O)⟩
  ·have j:=run_endLoop (P:=P) u (by rw[b];simp);have d:=hIx.putObj (.loop { c .done (some .ret)with state:=.exhausted }) N qo u rfl;rw[b]at j d;exact⟨some .ret,_,j,hstop D pre _ qo R d ((World.putObj_heap_other qo).trans O)⟩
def marks (ds:List Nat):List Deferred:=ds.map λD=>{ target:=.collected D,args:=#[] }
def Open (B:Nat) (ds:List Nat) (W:World):Prop:=ds.Nodup/\∀ D∈ds,B<=D/\W.1[D]?=some (.deferred (some []))
theorem Open.cons {B D:Nat}{ds:List Nat}{w W:World}(h:Open B ds w)(hs:∀ D∈ds,W.1[D]?=some (.deferred (some [])))(hD:B<=D)(hw:w.1.size<=D)(hk:W.1[D]?=some (.deferred (some []))):Open B (D::ds) W:=by
 refine⟨OZ.2 ⟨λb=>?_,h.1⟩,λE a=>?_⟩
 ·have:=(MH.1 (h.2 D b).2).1;omega
 ·rcases Ni.1 a with rfl | a
  ·exact⟨hD,hk⟩
  ·exact⟨(h.2 E a).1,hs E a⟩
theorem mY {n:Nat}{fn:Func}{tmps:Array Value}{R:Ending->World->Prop}{B:Nat}(K:World->Prop)(hK:OwnFrom B (λ(_:Unit) W=>K W))(hend:∀ W,K W->LeavesInM Fence.wide n P fn tmps R [] .returning W) :
  ∀ (ds:List Nat) (W:World),Open B ds W->K W->LeavesInM Fence.wide n P fn tmps R (marks ds) .returning W
 | [],W,_,h=>hend W h
 | D::ds,W,ho,h=>by
  obtain⟨hB,hk⟩:=ho.2 D qs;have hn:=OZ.1 ho.1;refine⟨qs,.inl ⟨D,_,rfl,run_takeDeferred hk,mY K hK hend ds _ ⟨hn.2,λE hE=>?_⟩ (hK.putObj (s:=()) _ h hB hk rfl)⟩⟩;obtain⟨h1,h2⟩:=ho.2 E (by simp[hE]);have hne:E≠D:=λe=>hn.1 (by rw[<-e];exact hE)
  exact⟨h1,(World.putObj_heap_other hne).trans h2⟩
end
end Go.Proofs.YtiifhfmekbhlnaaGreat
namespace Go.Proofs.YtiifhfmekbhlnaaGreat
open ChangeShapes WideShapes ChangeAt RowKit Deep Go.Shelf It
attribute [local go_sem] O4
abbrev PT (b:Nat):Value:=.pointer (some ⟨b,0,none⟩)
def tj (x:Nat × ByteArray):Array Value:=#[.int .i64 x.1,.string x.2]
theorem nD (v)(no)(path)(w)(hv:∃ ao n cap,v=.slice ao n cap) :
  Calls Tryz.prog 106 #[v,.int .i64 no,.string path] w λe w'=>e=.returned (.func (.func 149) #[] #[PT (w.1.size+1),PT (w.1.size+1+1),PT w.1.size]) /\
   w'=((w.alloc (.cells #[v] 25)).alloc (.cells #[.int .i64 no] 3)).alloc (.cells #[.string path] 9):=by
 obtain⟨ao,n,cap,rfl⟩:=hv;go_enter Tryz.func106,Tryz.ntmps106;go_wp2;go_ret;exact⟨rfl,rfl⟩
theorem RoundIn.inRound {F:Fence}{m:Nat}{P:Program}{l l':Nat}{f:FuncId}{tmps:Array Value}{assign body:Code}{w:World}{R:Ending->World->Prop}(h:RoundIn F m P l f tmps assign body w R):RoundIn (F.inRound l') m P l f tmps assign body w R:=h
theorem eight.kp {w V:World}{b o Bx:Nat}{x:Rw}(h:eight w b o x)(hk:Kp Bx w V)(hn:¬ iK Bx w b)(hb:b<w.1.size):eight V b o x:=by
 obtain⟨a,c,d,f,g,i,j,k⟩:=h;exact⟨(hk.cell hn hb).trans a,(hk.cell hn hb).trans c,(hk.cell hn hb).trans d,(hk.cell hn hb).trans f,(hk.cell hn hb).trans g,(hk.cell hn hb).trans i,(hk.cell hn hb).trans j,(hk.cell hn hb).trans k⟩
theorem GH {w V:World}{Bx n₀:Nat}{v:Value}{L:List Rw}(h:cD (λb=>b<n₀) w v L)(hk:Kp Bx w V)(hs:∀ b,b<n₀->¬ iK Bx w b):cD (λb=>b<n₀) V v L :=
 have k:∀ b,b<n₀->b<w.1.size->V.1[b]?=w.1[b]?/\b<n₀:=λb c d=>⟨hk.gJ b d (hs b c),c⟩
 ⟨h.1.gJ hk.size k,λx a=>⟨(h.2 x a).1.gJ hk.size k,(h.2 x a).2.1.gJ hk.size k,(h.2 x a).2.2⟩⟩
theorem xI {L:List Rw}{no:Nat}{x:Rw}(h:L[no]?=some x):Sp.dy (pl L) no=x.i.cE/\Sp.eu (pl L) no=(x.i.kind==2):=by
 unfold Sp.dy Sp.eu;rw[show (pl L)[no]?=some x.i from by simp[h]];exact⟨rfl,rfl⟩
abbrev Ba (V:World) (b o:Nat) (e:Sp.En):Prop:=V.cell? ⟨b,o,none⟩=some (.string e.1)/\V.cell? ⟨b,o+1,none⟩=some (.int .i64 e.2.1)/\V.cell? ⟨b,o+2,none⟩=some (.int .i64 e.2.2.1)/\V.cell? ⟨b,o+3,none⟩=some (.int .i64 e.2.2.2)
abbrev yO (e:Sp.En):Obj:=.cells #[.string e.1,.int .i64 e.2.1,.int .i64 e.2.2.1,.int .i64 e.2.2.2] 116
theorem lS {w:World}{A:Nat}{e:Sp.En}(h:w.1[A]?=some (yO e)):Ba w A 0 e/\∀ j,w.frozen? ⟨A,j,none⟩=false:=by
 refine⟨⟨?_,?_,?_,?_⟩,λj=>?_⟩ <;> simp[World.cell?,World.frozen?,h]
theorem pF {n:Nat}{tmps:Array Value}{R:Ending->World->Prop}{W:World}(h:∀ v,R (.returned v) W):LeavesInM Fence.wide n Tryz.prog Tryz.f149 tmps R [] .returning W:=⟨_,results_none rfl _ _ _,h _⟩
theorem tq (L)(ao)(cap n₀ Bx):∀ (f no:Nat) (path:ByteArray) (w:World) (bn bp bl:Nat),Sp.deep (pl L) f no->path.size+33*f<=1000->L.length<=1000->n₀<=w.1.size->cD (λb=>b<n₀) w (.slice ao L.length cap) L->gz Bx w->(∀ b,b<n₀->¬ iK Bx w b) ->
  (w.cell? ⟨bn,0,none⟩=some (.int .i64 no)/\w.cell? ⟨bp,0,none⟩=some (.string path)/\w.cell? ⟨bl,0,none⟩=some (.slice ao L.length cap))->(¬ iK Bx w bn/\¬ iK Bx w bp/\¬ iK Bx w bl) ->
  uj Tryz.prog 149 #[PT bn,PT bp,PT bl] tj Bx (Sp.walk (pl L) f no path) w
 | 0,_,_,_,_,_,_,h,_,_,_,_,_,_,_,_=>h.elim
 | f+1,no,path,w,bn,bp,bl,hdeep,hpath,hLn,hn0,htab,hbox,hsafe,⟨cn,cp,cl⟩, ⟨sn, sp, sl⟩ => by
  have IH:Hid (∀ (no:Nat) (path:ByteArray) (w:World) (bn bp bl:Nat),Sp.deep (pl L) f no->path.size+33*f<=1000->L.length<=1000->n₀<=w.1.size->cD (λb=>b<n₀) w (.slice ao L.length cap) L->gz Bx w->(∀ b,b<n₀->¬ iK Bx w b) ->
   (w.cell? ⟨bn,0,none⟩=some (.int .i64 no)/\w.cell? ⟨bp,0,none⟩=some (.string path)/\w.cell? ⟨bl,0,none⟩=some (.slice ao L.length cap))->(¬ iK Bx w bn/\¬ iK Bx w bp/\¬ iK Bx w bl) ->
   uj Tryz.prog 149 #[PT bn,PT bp,PT bl] tj Bx (Sp.walk (pl L) f no path) w):=tq L ao cap n₀ Bx f
  intro n l J Jx W hgW hl hJ hJx hY h0;have hbW:=hbox.up (hgW.block _ hbox.lt qs) hgW.size;obtain⟨Y,hYd⟩:=qE W.1.size;obtain⟨W1,hW1⟩:=qF (W.alloc (.cells #[.func (.yield l) #[] #[]] 179));have hgW1:w.grownBy W1 none:=by rw[hW1];exact cQ hgW (MU _ _ none)
  have hk1:=Kp.still hbox hgW1;have hJ1:J [] W1:=by rw[hW1];exact hJ.alloc _ h0
  have cy:W1.cell? ⟨Y,0,none⟩=some (.func (.yield l) #[] #[]):=by
   have:=MD W (.cells #[.func (.yield l) #[] #[]] 179);rw[hW1,<-hYd];simp only[World.cell?,this];rfl
  have sy:¬ iK Bx W1 Y:=by rw[hW1,<-hYd];exact hbW.new (MU W _ none) qn
  have hl1:=Nk _ _ cn;have hl2:=Nk _ _ cp;have hl3:=Nk _ _ cl;have dn:=(hk1.cell (o:=0) sn hl1).trans cn;have dp:=(hk1.cell (o:=0) sp hl2).trans cp;have dl:=(hk1.cell (o:=0) sl hl3).trans cl;obtain⟨fn,tmps,assign,body,hy,hR⟩:=hY (n-1) [] (no,path) W1 (by rw[Sp.je];exact⟨(Sp.dy (pl L) no).flatMap (Sp.step (pl L) f path),rfl⟩) hJ1;simp only[tj]at hy;have HDEEP:Hid _:=hdeep;have HYY:Hid _:=hY;have HJ:Hid (OwnFrom W.1.size J/\OwnFrom W.1.size Jx):=⟨hJ,hJx⟩;have HTAB:Hid _:=htab;have HSAFE:Hid ((∀ b,b<n₀->¬ iK Bx w b)/\(¬ iK Bx w bn/\¬ iK Bx w bp/\¬ iK Bx w bl)/\¬ iK Bx W1 Y/\gz Bx w):=⟨hsafe,⟨sn,sp,sl⟩,sy,hbox⟩;have HK1:Hid _:=hk1;have HCW:Hid (w.cell? ⟨bn,0,none⟩=some (.int .i64 no)/\w.cell? ⟨bp,0,none⟩=some (.string path)/\w.cell? ⟨bl,0,none⟩=some (.slice ao L.length cap)):=⟨cn,cp,cl⟩;have HCY:Hid (W1.cell? ⟨Y,0,none⟩=some (.func (.yield l) #[] #[])/\Y<W1.1.size):=⟨cy,Nk _ _ cy⟩;have HLW:Hid (l<W.1.size/\W.1.size=Y):=⟨hl,hYd⟩;have HN0:Hid _:=hn0;clear hn0;clear hdeep hY hJ hJx htab hsafe sn sp sl sy hbox hk1 hgW hgW1 h0 hJ1 cn cp cl hl hl1 hl2 hl3 hbW;refine callsIn_of_wp_marks Tryz.func149 rfl trivial ?_;simp only[Tryz.ntmps149,List.size_toArray,List.length_cons,List.length_nil,Nat.reduceAdd,Nat.reduceSub,Array.replicate_succ,Array.replicate_zero,List.push_toArray,List.append_toArray,List.nil_append,List.cons_append];subst hW1
  gi_wp2
  refine⟨λh=>(by cases h),hR.mono ?_⟩;clear hR hy;rintro e W2 (⟨rfl,hJ2,hk2⟩ | ⟨rfl,hJx2,hkf2⟩)
  ·have HK2:Hid _:=HK1.out.trans hk2;have HYB:Hid (W2.cell? ⟨Y,0,none⟩=some (.func (.yield l) #[] #[])/\¬ iK Bx W2 Y/\Y<W2.1.size):=⟨(hk2.cell HSAFE.out.2.2.1 HCY.out.2).trans HCY.out.1,hk2.safe HSAFE.out.2.2.1 HCY.out.2,M6 HCY.out.2 hk2.size⟩;have HJ2:Hid _:=hJ2;have jR:=HDEEP.out.1;rw[M8]at jR;obtain⟨x,hx⟩:∃ x,L[no]?=some x:=⟨_,MF jR⟩;obtain⟨ao',cap',hv',-,hcells⟩:=HTAB.out.1.open;simp only[Value.slice.injEq]at hv';obtain⟨rfl,-,rfl⟩:=hv';obtain⟨b,off,rfl,hbn,hbl,-⟩:=hcells no x hx;have H8:Hid (∀ i y,L[i]?=some y->eight w b (off+i*8) y):=λi y hy=>by
    obtain⟨b',off',he,_,_,hc⟩:=hcells i y hy;simp only[Option.some.injEq,Addr.mk.injEq,and_true]at he;obtain⟨rfl,rfl⟩:=he;exact⟨hc 0 _ rfl,hc 1 _ rfl,hc 2 _ rfl,hc 3 _ rfl,hc 4 _ rfl,hc 5 _ rfl,hc 6 _ rfl,hc 7 _ rfl⟩
   have HSB:Hid (¬ iK Bx w b/\b<w.1.size):=⟨HSAFE.out.1 b hbn,hbl⟩;have hgood:=HTAB.out.2 x (MG hx);have HLEN:Hid _:=hgood.len.2;obtain⟨eo,ecap,hev,hem,hents⟩:=hgood.2.1.open;simp only[Value.slice.injEq]at hev;obtain⟨rfl,-,rfl⟩:=hev;have HEN:Hid (∀ j e,x.i.cE[j]?=some e->∃ b2 off2,x.ep=some ⟨b2,off2,none⟩/\¬ iK Bx w b2/\b2<w.1.size/\Ba w b2 (off2+j*4) e):=λj e he=>by
    obtain⟨b2,off2,h1,h2,h3,hc⟩:=hents j e he;exact⟨b2,off2,h1,HSAFE.out.1 b2 h2,h3,hc 0 _ rfl,hc 1 _ rfl,hc 2 _ rfl,hc 3 _ rfl⟩
   have HEA:Hid _:=(xI hx).1;obtain⟨m,hm⟩:=qE x.en;have hmm:m<=9223372036854775807:=by rw[<-hm,HLEN.out];unfold maxLen at hem;omega
   have HM:Hid _:=HLEN.out.symm.trans hm;obtain⟨q0,q1,q2,q3,q4,q5,q6,q7⟩:=(H8.out no x hx).kp HK2.out HSB.out.1 HSB.out.2;rw[hm]at q6;have dn:=(HK2.out.cell (o:=0) HSAFE.out.2.1.1 (Nk _ _ HCW.out.1)).trans HCW.out.1;have dp:=(HK2.out.cell (o:=0) HSAFE.out.2.1.2.1 (Nk _ _ HCW.out.2.1)).trans HCW.out.2.1;have dl:=(HK2.out.cell (o:=0) HSAFE.out.2.1.2.2 (Nk _ _ HCW.out.2.2)).trans HCW.out.2.2;have hno':(no:Int)<(L.length:Int):=qo
   obtain⟨ep,hep⟩:=qE x.ep;obtain⟨ec,hec⟩:=qE x.ec;rw[hep]at q6;rw[hec]at q6;have HEP:Hid _:=hep;obtain⟨LN,hLN⟩:=qE L.length;have HLN:Hid _:=hLN;rw[hLN]at dl hno' hLn;clear hcells hents hgood hx hk2 hJ2 hm q0 q1 q2 q3 q4 q5 q7 cy hep hec jR hLN hYd HLEN hem
   gi_wp2
   refine wpIn_loop (λa' V=>∃ (u6 u21 u22 u23 u24 u25 u26 u27 u28 u29 u30 u31 u32 u33 u34 u35 u36 u37 u38 u39 u40 u41 u49:Value) (j:Nat) (ds:List Nat),(j<=m/\Hid (J (Sp.upto (pl L) f no path j) V)/\Hid (Kp Bx W2 V)/\Hid (Open W.1.size ds V))/\a' = { tmps:=#[.func (.yield l) #[] #[],PT bn,PT bp,PT bl,PT Y,undef,u6,undef,undef,.func (.yield l) #[] #[],.int .i64 (no:Int),.string path,.bool true,.bool false,.slice (some ⟨b,off,none⟩) LN cap,.int .i64 (no:Int),.pointer (some ⟨b,off+no*8,none⟩),.pointer (some ⟨b,off+no*8+6,none⟩),.slice ep m ec,.int .i64 (m:Int),.int .i64 (j:Int),u21,u22,u23,u24,u25,u26,u27,u28,u29,u30,u31,u32,u33,u34,u35,u36,u37,u38,u39,u40,u41,undef,undef,undef,undef,undef,undef,undef,u49],defers:=marks ds }) (λa' _=>m-(intOf (a'.tmps.getD 20 undef)).toNat) ⟨_,_,_,_,_,_,_,_,_,_,_,_,_,_,_,_,_,_,_,_,_,_,_,0,[],⟨MV _,by rw[Sp.Ee];exact HJ2.out,Kp.refl _ _,List.nodup_nil,λD hD=>(by cases hD)⟩,rfl⟩ ?_;clear q6 dn dp dl;rintro _ V ⟨u6,u21,u22,u23,u24,u25,u26,u27,u28,u29,u30,u31,u32,u33,u34,u35,u36,u37,u38,u39,u40,u41,u49,j,ds,⟨hj,HJV,HKV,HOP⟩,rfl⟩;have HKw:Hid _:=HK2.out.trans HKV.out;have dl:=(HKw.out.cell (o:=0) HSAFE.out.2.1.2.2 (Nk _ _ HCW.out.2.2)).trans HCW.out.2.2;have dp:=(HKw.out.cell (o:=0) HSAFE.out.2.1.2.1 (Nk _ _ HCW.out.2.1)).trans HCW.out.2.1;rw[HLN.out]at dl
   by_cases hlt:j<m
   ·obtain⟨e,he⟩:∃ e,x.i.cE[j]?=some e:=⟨_,MF (by rw[HM.out];exact hlt)⟩;have HEJ:Hid ((Sp.dy (pl L) no)[j]?=some e):=by rw[HEA.out];exact he
    obtain⟨b2,off2,hep,xo,hl2,h4⟩:=HEN.out j e he;obtain rfl:ep=some ⟨b2,off2,none⟩:=HEP.out.symm.trans hep;obtain⟨⟨he0,he1,hes⟩,hdd⟩:=HDEEP.out.2 e (MG HEJ.out);obtain⟨s,ck,e3,g⟩:=e;simp only at he0 he1 hes hdd h4;obtain⟨k,rfl⟩:∃ k:Nat,e3=(k:Int):=⟨e3.toNat,qo⟩;rw[M8]at he1;have hkL:k<L.length:=qo
    obtain⟨y,hyk⟩:∃ y,L[k]?=some y:=⟨_,MF hkL⟩;have h8:=(H8.out k y hyk).kp HKw.out HSB.out.1 HSB.out.2;have HDIR:Hid _:=(xI hyk).2;have HDD:Hid _:=hdd;have c4:Ba V b2 (off2+j*4) (s,ck,(k:Int),g):=⟨(HKw.out.cell xo hl2).trans h4.1,(HKw.out.cell xo hl2).trans h4.2.1,(HKw.out.cell xo hl2).trans h4.2.2.1,(HKw.out.cell xo hl2).trans h4.2.2.2⟩;obtain⟨c0,c1,c2,c3⟩:=c4;have hbV:=HKw.out.box HSAFE.out.2.2.2;have hkLN:(k:Int)<(LN:Int):=by rw[<-HLN.out];omega
    have hlt':(j:Int)<(m:Int):=by omega
    have hlb:bl<V.1.size:=Nk _ _ dl;have hlp:bp<V.1.size:=Nk _ _ dp;have hlbb:b<V.1.size:=M6 HSB.out.2 HKw.out.size;obtain⟨V1,hV1⟩:=qF (V.alloc (yO (s,ck,(k:Int),g)));have hgV:V.grownBy V1 none:=by rw[hV1];exact MU _ _ none
    have HKV1:Hid _:=Kp.still hbV hgV;have dl1:(V.alloc (yO (s,ck,(k:Int),g))).cell? ⟨bl,0,none⟩=_:=(dh hlb _ 0).trans dl;have dp1:(V.alloc (yO (s,ck,(k:Int),g))).cell? ⟨bp,0,none⟩=_:=(dh hlp _ 0).trans dp;obtain⟨r0,r1,r2,r3,r4,r5,r6,r7⟩:eight (V.alloc (yO (s,ck,(k:Int),g))) b (off+k*8) y:=h8.below ((MJ V.1.size V).alloc qn _) hlbb;clear h8 h4 he hep;obtain⟨V2,hV2⟩:=qF ((V.alloc (yO (s,ck,(k:Int),g))).alloc (jC y));have hg2:V.grownBy V2 none:=by rw[hV2];exact cQ (MU _ _ none) (MU _ _ none)
    have HKV2:Hid _:=Kp.still hbV hg2;have HJ2':Hid _:=HJ.out.1 _ _ _ none HJV.out hg2 (λr e=>(by cases e));have HOP2:Hid (Open W.1.size ds V2):=⟨HOP.out.1,λD hD=>⟨(HOP.out.2 D hD).1,HKV2.out.others _ _ (HOP.out.2 D hD).2 rfl⟩⟩;have HES:Hid ((pl L).length=LN/\k<L.length):=⟨by rw[M8];exact HLN.out,hkL⟩;have HSZ:Hid _:=hes;clear hgV HKV1 hV1 hdd hyk hes he0 he1 hkL
    by_cases hkind:y.i.kind=2
    ·have hkb:(y.i.kind==2)=true:=by simp[hkind]
     have HDK:Hid _:=HDIR.out.trans hkb;have hcat:¬ 9223372036854775807<path.size+1+s.size:=by have:=HSZ.out;omega
     clear hkind;have el:V2.cell? ⟨bl,0,none⟩=some (.slice (some ⟨b,off,none⟩) LN cap):=by rw[hV2];exact (dh qt _ 0).trans dl1
     have ep:V2.cell? ⟨bp,0,none⟩=some (.string path):=by rw[hV2];exact (dh qt _ 0).trans dp1
     obtain⟨⟨g0,g1,g2,g3⟩,-⟩:=lS (MD V (yO (s,ck,(k:Int),g)));have g0':V2.cell? ⟨V.1.size,0,none⟩=some (.string s):=by rw[hV2];exact (dh qs _ 0).trans g0
     have g2':V2.cell? ⟨V.1.size,2,none⟩=some (.int .i64 (k:Int)):=by rw[hV2];exact (dh qs _ 2).trans g2
     gi_wp2
     refine⟨trivial,λh=>(by cases h),(N8.2 (fk y _)).mono ?_⟩;rintro e' w' ⟨rfl,rfl⟩;rw[<-hV2,hkb];clear hV2 dl1 dp1 r0 r1 r2 r3 r4 r5 r6 r7 g0 g1 g2 g3
     gi_wp2
     have hway:Sp.Ff path s=path++(⟨#[47]⟩:ByteArray)++s:=rfl;generalize path++(⟨#[47]⟩:ByteArray)=q1 at hway |-;generalize q1++s=q at hway |-;have HQ:Hid _:=hway;clear hway;refine⟨trivial,λh=>(by cases h),?_⟩;refine CallsIn.mono (N8.2 (nD _ _ _ _ ⟨_,_,_,rfl⟩)) ?_;rintro e' w' ⟨rfl,rfl⟩;obtain⟨V3,hV3⟩:=qF (((V2.alloc (.cells #[.slice (some ⟨b,off,none⟩) LN cap] 25)).alloc (.cells #[.int .i64 (k:Int)] 3)).alloc (.cells #[.string q] 9));have hg3:V2.grownBy V3 none:=by rw[hV3];exact cQ (cQ (MU _ _ none) (MU _ _ none)) (MU _ _ none)
     have hs3:V3.1.size=V2.1.size+3:=by rw[hV3];simp
     have hb2:=HKV2.out.box hbV;have HK3:Hid _:=Kp.still hb2 hg3;have hb3:=HK3.out.box hb2;have HKw3:Hid _:=HKw.out.trans (HKV2.out.trans HK3.out);have HJ3:Hid _:=HJ.out.1 _ _ _ none HJ2'.out hg3 (λr e=>(by cases e));have HOP3:Hid (Open W.1.size ds V3):=⟨HOP2.out.1,λD hD=>⟨(HOP2.out.2 D hD).1,HK3.out.others _ _ (HOP2.out.2 D hD).2 rfl⟩⟩;have hWs:W.1.size<=V3.1.size:=by
      have h1:=HYB.out.2.2;have h2:=HLW.out.2;have h3:=HKV.out.size;have h4:=HKV2.out.size;omega
     have hlV:l<V3.1.size:=by have:=HLW.out.1;omega
     have t0:V3.cell? ⟨V2.1.size,0,none⟩=some (.slice (some ⟨b,off,none⟩) LN cap):=by
      rw[hV3];refine (dh qt _ 0).trans ((dh qs _ 0).trans ?_);simp only[World.cell?,heap_alloc_new V2 (.cells #[.slice (some ⟨b,off,none⟩) LN cap] 25)];rfl
     have t1:V3.cell? ⟨V2.1.size+1,0,none⟩=some (.int .i64 (k:Int)):=by
      rw[hV3];refine (dh qs _ 0).trans ?_;have:=MD (V2.alloc (.cells #[.slice (some ⟨b,off,none⟩) LN cap] 25)) (.cells #[.int .i64 (k:Int)] 3);rw[show (V2.alloc (.cells #[.slice (some ⟨b,off,none⟩) LN cap] 25)).1.size=V2.1.size+1 by simp]at this;simp only[World.cell?,this];rfl
     have t2:V3.cell? ⟨V2.1.size+1+1,0,none⟩=some (.string q):=by
      rw[hV3];have:=MD ((V2.alloc (.cells #[.slice (some ⟨b,off,none⟩) LN cap] 25)).alloc (.cells #[.int .i64 (k:Int)] 3)) (.cells #[.string q] 9);rw[show ((V2.alloc (.cells #[.slice (some ⟨b,off,none⟩) LN cap] 25)).alloc (.cells #[.int .i64 (k:Int)] 3)).1.size=V2.1.size+1+1 by simp]at this;simp only[World.cell?,this];rfl
     have HSEQ:Hid (uj Tryz.prog 149 #[PT (V2.1.size+1),PT (V2.1.size+1+1),PT V2.1.size] tj Bx (Sp.walk (pl L) f k (Sp.Ff path s)) V3) :=
      IH.out k (Sp.Ff path s) V3 _ _ _ (HDD.out HDK.out) (by rw[Sp.Hg];have:=HSZ.out;omega) (by rw[HLN.out];exact hLn) (MS HN0.out HKw3.out.size) (GH HTAB.out HKw3.out HSAFE.out.1) hb3 (λb hb=>HKw3.out.safe (HSAFE.out.1 b hb) (M6 hb HN0.out))
       ⟨t1,by rw[HQ.out];exact t2,by rw[HLN.out];exact t0⟩ ⟨hb2.new hg3 qo,hb2.new hg3 qo,hb2.new hg3 qn⟩
     have HST:Hid _:=show Sp.upto (pl L) f no path (j+1)=Sp.upto (pl L) f no path j++Sp.walk (pl L) f k (Sp.Ff path s) by
      rw[Sp.wX HEJ.out,Sp.FY (by simpa using HDK.out)];rfl
     rw[<-hV3];clear hV3 el ep g0' g2' t0 t1 t2 hcat
     gi_wp2
     refine rJ (gf:=149) (lb:=#[PT (V2.1.size+1),PT (V2.1.size+1+1),PT V2.1.size]) (encs:=tj) (Bx:=Bx) (xs:=Sp.walk (pl L) f k (Sp.Ff path s)) rfl (enters_of Tryz.func149 qk rfl) hb3 HSEQ.out (λ_=>rfl)
      (λpre V4=>J (Sp.upto (pl L) f no path j++pre) V4/\Kp Bx V3 V4) (λpre V4=>Jx (Sp.upto (pl L) f no path j++pre) V4/\∀ D∈ds,V4.1[D]?=some (.deferred (some [])))
      (λt A B row hs hg hr=>⟨HJ.out.1 _ A B row hs.1 hg (λr e=>⟨MS hWs (hr r e).1,(hr r e).2⟩),Ch (β:=Unit) hb3 qn () A B row hs.2 hg hr⟩)
      (λt A B row hs hg hr=>⟨HJ.out.2 _ A B row hs.1 hg (λr e=>⟨MS hWs (hr r e).1,(hr r e).2⟩),λD hD=>by
       have h1:=(MH.1 (HOP3.out.2 D hD).2).1;rw[hg.block D (MH.1 (hs.2 D hD)).1 (λe=>by have:=(hr D e.symm).1;omega)];exact hs.2 D hD⟩)
      ⟨by rw[OD];exact HJ3.out,Kp.refl _ _⟩
      (λz=>{ tmps:=#[.func (.yield l) #[] #[],PT bn,PT bp,PT bl,PT Y,undef,PT V.1.size,.int .i64 (z.1:Int),.string z.2,.func (.yield l) #[] #[],.int .i64 (no:Int),.string path,.bool true,.bool false,.slice (some ⟨b,off,none⟩) LN cap,.int .i64 (no:Int),.pointer (some ⟨b,off+no*8,none⟩),.pointer (some ⟨b,off+no*8+6,none⟩),.slice (some ⟨b2,off2,none⟩) m ec,.int .i64 (m:Int),.int .i64 (j:Int),.bool true,.pointer (some ⟨b2,off2+j*4,none⟩),.agg #[.string s,.int .i64 ck,.int .i64 (k:Int),.int .i64 g],.slice (some ⟨b,off,none⟩) LN cap,.pointer (some ⟨V.1.size,2,none⟩),.pointer (some ⟨V.1.size,2,none⟩),.int .i64 (k:Int),.pointer (some ⟨b,off+k*8,none⟩),VI y,.bool true,.bool false,.slice (some ⟨b,off,none⟩) LN cap,.pointer (some ⟨V.1.size,2,none⟩),.pointer (some ⟨V.1.size,2,none⟩),.int .i64 (k:Int),.string path,.string q1,PT V.1.size,.string s,.string q,.func (.func 149) #[] #[PT (V2.1.size+1),PT (V2.1.size+1+1),PT V2.1.size],.int .i64 (z.1:Int),.string z.2,undef,undef,undef,undef,undef,u49],defers:=[] }) ?assign ?body ?done ?stop
     case assign =>
      intro l' m' z V4 K hK;unfold tj
      gi_wp2
      exact hK
     case body =>
      rintro l' m' pre z V4 hl' hpz ⟨hJ4,hK4⟩;have hpw:Sp.upto (pl L) f no path j++pre++[z] <+: Sp.walk (pl L) (f+1) no path:=by
       refine List.IsPrefix.trans ?_ (Sp.AG (pl L) f no path (j+1));rw[HST.out,Nq];exact (List.prefix_append_right_inj _).2 hpz
      obtain⟨fn4,tmps4,assign4,body4,hy4,hR4⟩:=HYY.out (m'-1) (Sp.upto (pl L) f no path j++pre) z V4 hpw hJ4;simp only[tj]at hy4;have cy4:V4.cell? ⟨Y,0,none⟩=some (.func (.yield l) #[] #[]):=by
       have h2:=(HKV.out.trans HKV2.out).trans (HK3.out.trans hK4);exact (h2.cell HYB.out.2.1 HYB.out.2.2).trans HYB.out.1
      have HK4:Hid _:=hK4;clear hJ4 hK4 hpw hpz
      gi_wp2
      refine⟨λh=>(by cases h),RoundIn.inRound (hR4.mono ?_)⟩;clear hR4 hy4;rintro e V5 (⟨rfl,hJ5,hk5⟩ | ⟨rfl,hJx5,hkf5⟩)
      ·gi_wp2
       exact⟨hk5,by rw[<-Nq];exact hJ5,HK4.out.trans hk5⟩
      ·have HMK:Hid (∀ D∈ds,V5.1[D]?=some (.deferred (some []))):=λD hD=>hkf5.same D _ (by have:=(HOP3.out.2 D hD).1;have:=HLW.out.1;omega) (HK4.out.others _ _ (HOP3.out.2 D hD).2 rfl) rfl
       gi_wp2
       exact⟨⟨hkf5.size,λk o hk=>hkf5.same k o qo⟩,by rw[<-Nq];exact hJx5,HMK.out⟩
     case done =>
      rintro D V5 hD ⟨hJ5,hK5⟩ hdf;have HOP5:Hid _:=HOP3.out.cons (λE hE=>hK5.others _ _ (HOP3.out.2 E hE).2 rfl) (MS hWs hD) hD hdf;have HJ5:Hid (J (Sp.upto (pl L) f no path (j+1)) V5):=by rw[HST.out];exact hJ5
      have HK5:Hid _:=(HKV.out.trans HKV2.out).trans (HK3.out.trans hK5);clear hJ5 hK5 hdf hD
      gi_wp2
      refine⟨⟨_,_,_,_,_,_,_,_,_,_,_,_,_,_,_,_,_,_,_,_,_,_,_,j+1,D::ds,⟨qo,HJ5.out,HK5.out,HOP5.out⟩,by first | rfl | congr 1⟩,?_⟩;simp[intOf];omega
     case stop =>
      rintro D pre V5 hD hpre ⟨hJx5,hmk5⟩ hdf;have HOP5:Hid _:=HOP3.out.cons hmk5 (MS hWs hD) hD hdf;have HPR:Hid (Sp.upto (pl L) f no path j++pre <+: Sp.walk (pl L) (f+1) no path):=by
       refine List.IsPrefix.trans ?_ (Sp.AG (pl L) f no path (j+1));rw[HST.out];exact (List.prefix_append_right_inj _).2 hpre
      gi_wp2
      exact mY (λW'=>Jx (Sp.upto (pl L) f no path j++pre) W') (λt A B row hs hg hr=>HJ.out.2 _ A B row hs hg hr) (λW' h=>pF (λv=>⟨⟨v,rfl⟩,.inr ⟨_,HPR.out,h⟩⟩)) (D::ds) V5 HOP5.out hJx5
    ·have hkb:=MQ.2 hkind;have HST:Hid _:=show Sp.upto (pl L) f no path (j+1)=Sp.upto (pl L) f no path j by
      rw[Sp.wX HEJ.out,Sp.Eb (HDIR.out.trans hkb),OD]
     clear hkind
     gi_wp2
     refine⟨trivial,λh=>(by cases h),(N8.2 (fk y _)).mono ?_⟩;rintro e' w' ⟨rfl,rfl⟩;rw[<-hV2,hkb];clear hV2 dl1 dp1 r0 r1 r2 r3 r4 r5 r6 r7
     gi_wp2
     refine⟨⟨_,_,_,_,_,_,_,_,_,_,_,_,_,_,_,_,_,_,_,_,_,_,_,j+1,ds,⟨qo,by rw[HST.out];exact HJ2'.out,HKV.out.trans HKV2.out,HOP2.out⟩,by congr 1⟩,?_⟩;simp[intOf];omega
   ·obtain rfl:j=m:=qo
    have HEND:Hid (J (Sp.walk (pl L) (f+1) no path) V):=by
     have hu:=Sp.Fx (L:=pl L) (f:=f) (no:=no) (path:=path) (j:=j) (by rw[HEA.out];exact HM.out);rw[<-hu];exact HJV.out
    gi_wp2
    exact mY (λW'=>J (Sp.walk (pl L) (f+1) no path) W') (λs A B row hs hg hr=>HJ.out.1 _ A B row hs hg hr) (λW' h=>pF (λv=>⟨⟨v,rfl⟩,.inl h⟩)) ds V HOP.out HEND.out
  ·gi_wp2
   exact pF (λv=>⟨⟨v,rfl⟩,.inr ⟨_,by rw[Sp.je];exact⟨(Sp.dy (pl L) no).flatMap (Sp.step (pl L) f path),rfl⟩,hJx2⟩⟩)
end Go.Proofs.YtiifhfmekbhlnaaGreat
