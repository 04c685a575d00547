/- Part 9. -/
import Derived.Laws.CopyRow
import Derived.Test.YtiifhfmekbhlnaaGreatH8
set_option maxHeartbeats 8000000
set_option maxRecDepth 100000
namespace Go.Proofs.YtiifhfmekbhlnaaGreat
open ChangeShapes WideShapes ChangeAt RowKit Deep It
theorem zY (L):(It.eW L=0/\It.right L=true)\/(It.eW L=4/\It.right L=false):=by
 unfold It.eW
 cases h:It.right L
 ·exact .inr ⟨rfl,rfl⟩
 ·exact .inl ⟨rfl,rfl⟩
theorem jd:iG (Sp.dW Sp.cZ):=by
 intro S v L w t n;have g:=hH t;have h:=hH n;obtain⟨F,D,rfl,-,-⟩:=t.open;clear t n;rcases zY (pl L)with⟨hc,hr⟩ | ⟨hc,hr⟩
 ·have k:=hH hc;have i:=hH hr;clear hc hr
  cases hf:Sp.lU (pl L)with
  | true =>
   have l:=hH hf
   cases hn:Sp.oM (pl L)with
   | true =>
    have p:=hH hn;have s:=hH<|Sp.yo i (Sp.vd.1 hf) hn;have r:=(Sp.ew i).2;have z:=hH<|show L.length<=24 by rwa [M8]at r
    have A:=hH<|Sp.Aj s r (show Sp.kj (pl L) 0 0 0 from rfl) (Sp.l9 s.root);have m:=hH<|MS (Sp.zr s 24 ⟨#[]⟩) (by rw[<-Sp.u7];exact MS List.countP_le_length r);obtain⟨q,u⟩:=qE (Sp.uk (pl L));have B:=hH u;have b:Sp.dW Sp.cZ (pl L)=if q=true then 0 else 4:=by
     unfold Sp.dW Sp.cZ;rw[i.out,hf,hn,u];rfl
    rw[b];clear b u r hf hn
    cases q with
    | true =>
     rw[MC rfl];go_enter Tryz.func39,Tryz.ntmps39;go_wp2_with fail;refine (du _ L _ g).mono ?_;rintro e o ⟨rfl,a⟩;rw[k.out];have c:=hH a;clear a;go_wp2_with fail;refine (iE _ L _ (g.up c) h).mono ?_;rintro e y ⟨rfl,a⟩;rw[l.out];have d:=qJ c a;clear a;go_wp2_with fail;refine (nQ _ L _ (g.up d) i).mono ?_;rintro e C ⟨rfl,a⟩;rw[p.out];have f:=qJ d a;clear a;go_wp2_with fail;refine (sC _ L _ (g.up f) A z m).mono ?_;rintro e E ⟨rfl,a⟩;rw[show (((Sp.walk (pl L) 24 0 ⟨#[]⟩).length:Int)-((pl L).countP (λx=>x.kind==2):Nat)==0)=true from B];have j:=qJ f a;clear a;go_wp2;go_ret;exact⟨rfl,j⟩
    | false =>
     rw[ME qd];go_enter Tryz.func39,Tryz.ntmps39;go_wp2_with fail;refine (du _ L _ g).mono ?_;rintro e o ⟨rfl,a⟩;rw[k.out];have c:Hid _:=a;clear a;go_wp2_with fail;refine (iE _ L _ (g.up c) h).mono ?_;rintro e y ⟨rfl,a⟩;rw[l.out];have d:=qJ c a;clear a;go_wp2_with fail;refine (nQ _ L _ (g.up d) i).mono ?_;rintro e C ⟨rfl,a⟩;rw[p.out];have f:=qJ d a;clear a;go_wp2_with fail;refine (sC _ L _ (g.up f) A z m).mono ?_;rintro e E ⟨rfl,a⟩;rw[show (((Sp.walk (pl L) 24 0 ⟨#[]⟩).length:Int)-((pl L).countP (λx=>x.kind==2):Nat)==0)=false from B];have j:=qJ f a;clear a;go_wp2;go_ret;exact⟨rfl,j⟩
   | false =>
    have p:Hid _:=hn;have b:Sp.dW Sp.cZ (pl L)=4:=by
     unfold Sp.dW Sp.cZ;rw[i.out,hf,hn];rfl
    rw[b];clear b hf hn;go_enter Tryz.func39,Tryz.ntmps39;go_wp2_with fail;refine (du _ L _ g).mono ?_;rintro e o ⟨rfl,a⟩;rw[k.out];have c:Hid _:=a;clear a;go_wp2_with fail;refine (iE _ L _ (g.up c) h).mono ?_;rintro e y ⟨rfl,a⟩;rw[l.out];have d:=qJ c a;clear a;go_wp2_with fail;refine (nQ _ L _ (g.up d) i).mono ?_;rintro e C ⟨rfl,a⟩;rw[p.out];have f:=qJ d a;clear a;go_wp2;go_ret;exact⟨rfl,f⟩
  | false =>
   have l:Hid _:=hf;have b:Sp.dW Sp.cZ (pl L)=4:=by
    unfold Sp.dW Sp.cZ;rw[i.out,hf];rfl
   rw[b];clear b hf;go_enter Tryz.func39,Tryz.ntmps39;go_wp2_with fail;refine (du _ L _ g).mono ?_;rintro e o ⟨rfl,a⟩;rw[k.out];have c:Hid _:=a;clear a;go_wp2_with fail;refine (iE _ L _ (g.up c) h).mono ?_;rintro e y ⟨rfl,a⟩;rw[l.out];have d:=qJ c a;clear a;go_wp2;go_ret;exact⟨rfl,d⟩
 ·have k:Hid _:=hc;have b:Sp.dW Sp.cZ (pl L)=4:=by
   unfold Sp.dW Sp.cZ;rw[hr];rfl
  rw[b];clear b hc hr;go_enter Tryz.func39,Tryz.ntmps39;go_wp2_with fail;refine (du _ L _ g).mono ?_;rintro e o ⟨rfl,a⟩;rw[k.out];go_wp2;go_ret;exact⟨rfl,a⟩
theorem Sp.CU {β:Type}(f:β->Nat)(B):∀ (n:Nat) (l:List β),(∀ e∈l,f e<n)->(∀ c,c<n->l.countP (λe=>f e==c)<=B)->l.length<=n*B
 | 0,l,h,_=>by
  cases l with
  | nil=>simp
  | cons e r=>have:=h e qs;omega
 | n+1,l,h,hc => by
  have h1:l.length=l.countP (λe=>f e==n)+(l.filter (λe=>!(f e==n))).length:=by
   rw[<-List.countP_eq_length_filter,List.length_eq_countP_add_countP (λe=>f e==n)]
   congr 1
   refine List.countP_congr λe _=>?_
   simp
  have i:=Sp.CU f B n (l.filter (λe=>!(f e==n))) (λe d=>by
   obtain⟨a,b⟩:=NK.1 d;have:=h e a;simp at b;omega) (λc g=>MS (List.Sublist.countP_le List.filter_sublist) (hc c qo))
  have a:=hc n qo;rw[h1,Nat.succ_mul];omega
theorem Sp.Mz {L:List cL}(h:It.right L=true)(hc:Sp.oM L=true)(c):(Sp.dk L).countP (λe=>e.2.2.1.toNat==c)<=64:=by
 by_cases hcl:c<L.length
 ·have k:=MF hcl;have l:(Sp.dk L).countP (λe=>e.2.2.1.toNat==c)=Sp.Fj L ((c:Int),L[c].gen):=by
   unfold Sp.Fj;refine List.countP_congr λe g=>?_
   obtain⟨d,_,_⟩:=Sp.jN h hc g;obtain⟨i,x,a,b,m,_⟩:=dY.1 d;simp only[beq_iff_eq];constructor
   ·intro f;have:i=c:=by omega
    subst this;rw[k]at a
    cases a
    exact Prod.ext b m.symm
   ·intro f;rw[f];simp
  have d:=(Sp.oe h).1 hc ((c:Int),L[c].gen);have f:Sp.Small (Sp.start L):=(Sp.mR h _).set _ (by decide) (by decide);have n:=f.val ((c:Int),L[c].gen);rw[l];omega
 ·have:(Sp.dk L).countP (λe=>e.2.2.1.toNat==c)=0:=by
   refine Ph.2 λe g j=>?_
   obtain⟨d,_,_⟩:=Sp.jN h hc g;obtain⟨i,x,a,b,_⟩:=dY.1 d;have:=(qM a);simp at j;omega
  omega
theorem eQ:Sp.kR (Sp.dW Sp.cZ):=by
 intro L f;have n:Sp.cZ L=true:=by
  unfold Sp.dW at f;split at f
  ·assumption
  ·cases f
 obtain⟨a,o,g,_⟩:=Sp.ei.1 n;have b:∀ x∈L,∀ e∈x.cE,cM L e.2.2.1 e.2.2.2=0/\1<=(cY L e.2.2.1 e.2.2.2).cH/\e.2.2.1≠0:=λx j e k=>by
  obtain⟨l,m,h⟩:=Sp.jN a g (Ou.2 ⟨x,j,k⟩);have d:cM L e.2.2.1 e.2.2.2=0:=by unfold cM;rw[MC a,MC l]
  refine⟨d,?_,m⟩;unfold cY;rw[MC d];exact h
 refine⟨a,o,λx j=>?_,b⟩;obtain⟨p,q⟩:=M1.1 j;have l:x.cE.length<=(Sp.dk L).length:=by
  have:=Sp.uA (λ_=>true) L p;rw[List.countP_true]at this;unfold Sp.dy at this;rw[q]at this;exact this
 have m:=Sp.CU (λe:Sp.En=>e.2.2.1.toNat) 64 24 (Sp.dk L) (λe k=>by
  obtain⟨h,_⟩:=Sp.jN a g k;obtain⟨i,y,r,s,_⟩:=dY.1 h;have d:=(qM r);have t:=(Sp.ew a).2;show e.2.2.1.toNat<24;omega) (λc _=>Sp.Mz a g c)
 omega
def Sp.l7 (L:List cL) (no to:Int):Bool:=(Sp.walk L 24 no.toNat ⟨#[]⟩).any λz=>(z.1:Int)==to
theorem FA:tL (Sp.dW Sp.cZ) Sp.l7:=by
 rintro S v L i d w f g a ⟨k,x,rfl,h,-⟩;have b:Sp.cZ (pl L)=true:=by
  unfold Sp.dW at a;split at a
  ·assumption
  ·cases a
 have c:=(Sp.ew (Sp.ei.1 b).1).2;rw[M8]at c;have:=A0 v L k d w f (Sp.DG b (qM h)) qo;unfold Sp.l7;rw[show ((k:Int)).toNat=k by omega];exact this
end Go.Proofs.YtiifhfmekbhlnaaGreat
namespace Go.Proofs.YtiifhfmekbhlnaaGreat.Os
open RowKit
abbrev dP:=Int × Int × Int × Int
def EO:fY dP:=⟨4,λx=>[.int .i64 x.1,.int .i64 x.2.1,.int .i64 x.2.2.1,.int .i64 x.2.2.2],λ_=>rfl,λx u hu=>by
 simp at hu;rcases hu with rfl | rfl | rfl | rfl <;> rfl⟩
def Ho (no gen:Int):Prop:=(0<=no/\no<=23)/\(1<=gen/\gen<=1099511627776)
instance (no gen:Int):Decidable (Ho no gen):=by unfold Ho;infer_instance
namespace Op
def Cl (c:Int):Prop:=0<=c/\c<=1099511627776
instance (c:Int):Decidable (Cl c):=by unfold Cl;infer_instance
def lL (t:Int) (x:dP):Prop:=(t<=x.1/\x.1<=15)/\Cl x.2.1/\Ho x.2.2.1 x.2.2.2
instance (t:Int) (x:dP):Decidable (lL t x):=by unfold lL;infer_instance
def right (t:Int):List dP->Bool
 | []=>true
 | x::r=>decide (lL t x)&&right (x.1+1) r
theorem gR {α:Type}{l:List α}{k:Nat}{x:α}(h:l[k]?=some x):l.drop k=x::l.drop (k+1):=by
 obtain⟨a,rfl⟩:=MN.1 h;exact Ob a
theorem take_at {α:Type}{l:List α}{k:Nat}{x:α}(h:l[k]?=some x):l.take (k+1)=l.take k++[x]:=by
 rw[NF,h];rfl
theorem rP {l:List dP}{k:Nat}{x:dP}{t:Int}(h:l[k]?=some x)(hg:lL t x):right t (l.drop k)=right (x.1+1) (l.drop (k+1)):=by
 rw[gR h];simp[right,hg]
theorem uf {l:List dP}{k:Nat}{x:dP}{t:Int}(h:l[k]?=some x)(hg:¬ lL t x):right t (l.drop k)=false:=by
 rw[gR h];simp[right,hg]
theorem se {l:List dP}{k:Nat}{t:Int}(h:k=l.length):right t (l.drop k)=true:=by
 rw[h,List.drop_length];rfl
theorem lW:∀ (l:List dP) (t:Int),right t l=true->∀ (j:Nat) (x:dP),l[j]?=some x->t+j<=x.1/\x.1+(l.length:Int)<=16+j/\Cl x.2.1/\Ho x.2.2.1 x.2.2.2
 | [],_,_,j,x,h=>by simp at h
 | y::r,t,h,0,x,hx => by
  simp[right]at h;simp at hx;subst hx;refine⟨by have:=h.1.1.1;simpa using this,?_,h.1.2.1,h.1.2.2⟩;have ih:=lW r _ h.2
  cases r with
  | nil =>
   have:=h.1.1.2;simp;omega
  | cons z r =>
   have:=ih 0 z rfl;simp only[List.length_cons]at this |-;omega
 | y::r,t,h,j+1,x,hx=>by
  simp[right]at h;have ih:=lW r _ h.2 j x (by simpa using hx);have:=h.1.1.1;simp only[List.length_cons];refine⟨qo,qo,ih.2.2⟩
theorem ew {l:List dP}(h:right 0 l=true):l.length<=16:=by
 cases l with
 | nil=>simp
 | cons x r =>
  have:=lW _ _ h 0 x rfl;omega
def ask (l:List dP) (c:Int):Int:=if right 0 l=true then (if Cl c then 0 else 1) else 4
theorem ns (l)(c):(ask l c=0/\right 0 l=true/\Cl c)\/(ask l c=1/\right 0 l=true/\¬ Cl c)\/(ask l c=4/\right 0 l=false):=by
 unfold ask
 cases h:right 0 l
 ·exact .inr (.inr ⟨qs,rfl⟩)
 ·by_cases hc:Cl c
  ·exact .inl ⟨by simp[hc],rfl,hc⟩
  ·exact .inr (.inl ⟨by simp[hc],rfl,hc⟩)
def least (i:Nat):List dP->Nat
 | []=>i
 | x::r=>if x.1=i then least (i+1) r else i
theorem DB {l:List dP}{k:Nat}{x:dP}(h:l[k]?=some x)(hx:x.1=k):least k (l.drop k)=least (k+1) (l.drop (k+1)):=by
 rw[gR h];simp[least,hx]
theorem GP {l:List dP}{k:Nat}{x:dP}(h:l[k]?=some x)(hx:¬ x.1=k):least k (l.drop k)=k:=by
 rw[gR h];simp[least,hx]
theorem Dq {l:List dP}{k:Nat}(h:k=l.length):least k (l.drop k)=k:=by
 rw[h,List.drop_length];rfl
theorem oJ:∀ (l:List dP) (i:Nat),i<=least i l/\least i l<=i+l.length/\(∀ j,j<least i l-i->∃ x,l[j]?=some x/\x.1=((i+j:Nat):Int))/\∀ x,l[least i l-i]?=some x->¬ x.1=(least i l:Int)
 | [],i=>⟨by simp[least],by simp[least],λj hj=>by simp[least]at hj,λx hx=>by simp at hx⟩
 | y::r,i => by
  by_cases hy:y.1=i
  ·have e:least i (y::r)=least (i+1) r:=by simp[least,hy]
   obtain⟨d,f,b,c⟩:=oJ r (i+1);rw[e];refine⟨qo,qt,λj hj=>?_,λx hx=>?_⟩
   ·cases j with
    | zero=>exact⟨y,rfl,hy⟩
    | succ j =>
     obtain⟨x,hx,a⟩:=b j qo;exact⟨x,by simpa using hx,by rw[a];congr 1;omega⟩
   ·rw[show least (i+1) r-i=(least (i+1) r-(i+1))+1 by omega,List.getElem?_cons_succ]at hx;exact c x hx
  ·have e:least i (y::r)=i:=by simp[least,hy]
   rw[e];refine⟨qn,qo,λj hj=>by omega,λx hx=>?_⟩;simp at hx;subst hx;exact hy
theorem zy (l):least 0 l<=l.length:=by have:=(oJ l 0).2.1;omega
def used (l:List dP) (n:Int):Bool:=l.any λx=>x.1==n
def iA (l:List dP) (c no gen:Int):Int:=if ask l c=0 then (if Ho no gen then (if l.length=16 then 407 else 0) else 1) else ask l c
def opened (l:List dP) (c no gen:Int):List dP:=if iA l c no gen=0 then l.take (least 0 l)++[((least 0 l:Int),c,no,gen)]++l.drop (least 0 l) else []
def mu (l:List dP) (c no gen:Int):Int:=if iA l c no gen=0 then (least 0 l:Int) else 0
theorem De (l)(c no gen):(iA l c no gen=0/\ask l c=0/\right 0 l=true/\Cl c/\Ho no gen/\l.length<16)\/(iA l c no gen=ask l c/\ask l c≠0)\/(iA l c no gen=1/\ask l c=0/\¬ Ho no gen)\/(iA l c no gen=407/\ask l c=0/\right 0 l=true/\Ho no gen/\l.length=16):=by
 rcases ns l c with⟨a,b,d⟩ | ⟨a,b,d⟩ | ⟨a,b⟩
 ·unfold iA;rw[MC a]
  by_cases ho:Ho no gen
  ·rw[MC ho];have:=ew b
   by_cases hl:l.length=16
   ·rw[MC hl];exact .inr (.inr (.inr ⟨rfl,a,b,ho,hl⟩))
   ·rw[ME hl];exact .inl ⟨rfl,a,b,d,ho,qo⟩
  ·rw[ME ho];exact .inr (.inr (.inl ⟨rfl,a,ho⟩))
 ·exact .inr (.inl ⟨by unfold iA;rw[ME qo],qo⟩)
 ·exact .inr (.inl ⟨by unfold iA;rw[ME qo],qo⟩)
def js (c fd:Int) (x:dP):Bool:=x.2.1==c&&x.1==fd
def owned (l:List dP) (c:Int):List dP:=l.filter λx=>x.2.1==c
def gP (l g:List dP):List dP:=l.filter λx=>decide (x ∉ g)
def eO (l:List dP) (c fd:Int):Int:=if ask l c=0 then (match l.find? (js c fd)with | some _=>0 | none=>411) else ask l c
def closed (l:List dP) (c fd:Int):List dP:=if ask l c=0 then (match l.find? (js c fd)with | some x=>gP l [x] | none=>[]) else []
def gq (l:List dP) (c fd:Int):Int × Int:=if ask l c=0 then (match l.find? (js c fd)with | some x=>x.2.2 | none=>(0,0)) else (0,0)
def left (l:List dP) (c:Int):List dP:=if ask l c=0 then gP l (owned l c) else []
def held (l:List dP) (no gen:Int):Nat:=l.countP λx=>x.2.2.1==no&&x.2.2.2==gen
end Op
end Go.Proofs.YtiifhfmekbhlnaaGreat.Os
namespace Go.Proofs.YtiifhfmekbhlnaaGreat.Os
open ChangeShapes WideShapes ChangeAt RowKit Deep
theorem C0:(Tryz.prog.info? 90).map (λi=>(i.zero,i.size,i.bytes))=some (some (.agg #[.int .i64 0,.int .i64 0,.int .i64 0,.int .i64 0]),4,32):=qk
theorem NQ {P:Program}{e:TypeId}{z:Value}{n b:Nat}(h:(P.info? e).map (λi=>(i.zero,i.size,i.bytes))=some (some z,n,b)):∃ i,P.info? e=some i/\i.zero=some z/\i.size=n/\i.bytes=b:=by
 cases hi:P.info? e with
 | none=>rw[hi]at h;cases h
 | some i =>
  rw[hi]at h;simp at h;exact⟨i,rfl,h.1,h.2.1,h.2.2⟩
theorem eJ (lo x hi)(w):Calls Tryz.prog 65 #[.int .i64 lo,.int .i64 x,.int .i64 hi] w λe w'=>e=.returned (.bool (decide (lo<=x/\x<=hi)))/\w'=w:=by
 by_cases h1:lo<=x
 ·by_cases h2:x<=hi
  ·rw[MT (show lo<=x/\x<=hi from⟨h1,h2⟩)];go_enter Tryz.func65,Tryz.ntmps65;go_wp2;go_ret;exact⟨rfl,rfl⟩
  ·rw[MO (show ¬ (lo<=x/\x<=hi) from λh=>h2 h.2)];go_enter Tryz.func65,Tryz.ntmps65;go_wp2;go_ret;exact⟨rfl,rfl⟩
 ·rw[MO (show ¬ (lo<=x/\x<=hi) from λh=>h1 h.1)];go_enter Tryz.func65,Tryz.ntmps65;go_wp2;go_ret;exact⟨rfl,rfl⟩
theorem dD (lo x hi)(w)(h:lo<=x/\x<=hi):Calls Tryz.prog 65 #[.int .i64 lo,.int .i64 x,.int .i64 hi] w λe w'=>e=.returned (.bool true)/\w'=w:=by
 have:=eJ lo x hi w
 rwa [MT h]at this
theorem ix (lo x hi)(w)(h:¬ (lo<=x/\x<=hi)):Calls Tryz.prog 65 #[.int .i64 lo,.int .i64 x,.int .i64 hi] w λe w'=>e=.returned (.bool false)/\w'=w:=by
 have:=eJ lo x hi w
 rwa [MO h]at this
theorem sw (c)(w):Calls Tryz.prog 66 #[.int .i64 c] w λe w'=>e=.returned (.bool (decide (Op.Cl c)))/\w'=w:=by
 obtain⟨b,a⟩:=qE (decide (Op.Cl c));have d:Hid _:=(show decide (0<=c/\c<=1099511627776)=decide (Op.Cl c) from decide_eq_decide.2 Iff.rfl).trans a;rw[a];clear a;go_enter Tryz.func66,Tryz.ntmps66;go_wp2_with fail;refine (eJ _ _ _ _).mono ?_;rintro e w' ⟨rfl,rfl⟩;rw[d.out];go_wp2;go_ret;exact⟨rfl,rfl⟩
theorem nA (c)(w)(h:Op.Cl c):Calls Tryz.prog 66 #[.int .i64 c] w λe w'=>e=.returned (.bool true)/\w'=w:=by
 have:=sw c w
 rwa [MT h]at this
theorem uJ (c)(w)(h:¬ Op.Cl c):Calls Tryz.prog 66 #[.int .i64 c] w λe w'=>e=.returned (.bool false)/\w'=w:=by
 have:=sw c w
 rwa [MO h]at this
abbrev BH (no gen:Int):Obj:=.cells #[.int .i64 no,.int .i64 gen] 57
abbrev VH (no gen:Int):Value:=.agg #[.int .i64 no,.int .i64 gen]
theorem CW (no gen)(w):Calls Tryz.prog 67 #[VH no gen] w λe w'=>e=.returned (.bool (decide (Ho no gen)))/\w'=w.alloc (BH no gen):=by
 by_cases h1:0<=no/\no<=23
 ·have H:Hid _:=h1;obtain⟨b,a⟩:=qE (decide (Ho no gen));have c:Hid _:=(show decide (1<=gen/\gen<=1099511627776)=decide (Ho no gen) from decide_eq_decide.2 ⟨λh=>⟨h1,h⟩,λh=>h.2⟩).trans a;rw[a];clear h1 a;go_enter Tryz.func67,Tryz.ntmps67;go_wp2_with fail;refine (dD _ _ _ _ H).mono ?_;rintro e w' ⟨rfl,rfl⟩;go_wp2_with fail;refine (eJ _ _ _ _).mono ?_;rintro e w' ⟨rfl,rfl⟩;rw[c.out];go_wp2;go_ret;exact⟨rfl,rfl⟩
 ·rw[MO (show ¬ Ho no gen from λh=>h1 h.1)];have H:Hid _:=h1;clear h1;go_enter Tryz.func67,Tryz.ntmps67;go_wp2_with fail;refine (ix _ _ _ _ H).mono ?_;rintro e w' ⟨rfl,rfl⟩;go_wp2;go_ret;exact⟨rfl,rfl⟩
theorem xy (no gen)(w)(h:Ho no gen):Calls Tryz.prog 67 #[VH no gen] w λe w'=>e=.returned (.bool true)/\w'=w.alloc (BH no gen):=by
 have:=CW no gen w
 rwa [MT h]at this
theorem Hn (no gen)(w)(h:¬ Ho no gen):Calls Tryz.prog 67 #[VH no gen] w λe w'=>e=.returned (.bool false)/\w'=w.alloc (BH no gen):=by
 have:=CW no gen w
 rwa [MO h]at this
abbrev BO (x:dP):Obj:=.cells #[.int .i64 x.1,.int .i64 x.2.1,.int .i64 x.2.2.1,.int .i64 x.2.2.2] 90
abbrev VO (x:dP):Value:=.agg #[.int .i64 x.1,.int .i64 x.2.1,.int .i64 x.2.2.1,.int .i64 x.2.2.2]
theorem I3 (w)(y x:dP):(binOp .eql 90 (VO y) (VO x)).run Tryz.prog w=.ok (.bool (decide (y=x))) w:=by
 obtain⟨a,b,c,d⟩:=y;obtain⟨f,g,h,i⟩:=x;have e:decide ((a,b,c,d)=(f,g,h,i))=((a==f)&&((b==g)&&((c==h)&&(d==i)))):=by
  rw[Pk];simp
 rw[e]
 cases h0:(a==f) <;> cases h1:(b==g) <;> cases h2:(c==h) <;> cases h3:(d==i) <;> go_simp <;> simp[h0,h1,h2,h3]
theorem zM (w)(a b c d):(binOp .eql 57 (VH a b) (VH c d)).run Tryz.prog w=.ok (.bool (a==c&&b==d)) w:=by
 cases h0:(a==c) <;> cases h1:(b==d) <;> go_simp <;> simp[h0,h1]
theorem dh {w1:World}{p:Nat}(hp:p<w1.1.size)(o)(j):(w1.alloc o).cell? ⟨p,j,none⟩=w1.cell? ⟨p,j,none⟩:=((MJ w1.1.size w1).alloc qn o).cell (p:=⟨p,j,none⟩) hp
theorem jO {w wr:World}{b off k:Nat}{x:dP}(h:Bw w wr)(hB:b<w.1.size)(hc:∀ j u,(EO.cells x)[j]?=some u->w.cell? ⟨b,off+(k*EO.sz+j),none⟩=some u) :
  wr.cell? ⟨b,off+k*4,none⟩=some (.int .i64 x.1)/\wr.cell? ⟨b,off+k*4+1,none⟩=some (.int .i64 x.2.1)/\wr.cell? ⟨b,off+k*4+2,none⟩=some (.int .i64 x.2.2.1)/\wr.cell? ⟨b,off+k*4+3,none⟩=some (.int .i64 x.2.2.2):=by
 have a:=λj u c=>(h.cell (p:=⟨b,off+(k*EO.sz+j),none⟩) hB).trans (hc j u c)
 exact⟨a 0 _ rfl,a 1 _ rfl,a 2 _ rfl,a 3 _ rfl⟩
theorem yj {w:World}{A:Nat}{x:dP}(h:w.1[A]?=some (BO x)) :
  (w.cell? ⟨A,0,none⟩=some (.int .i64 x.1)/\w.cell? ⟨A,1,none⟩=some (.int .i64 x.2.1)/\w.cell? ⟨A,2,none⟩=some (.int .i64 x.2.2.1)/\w.cell? ⟨A,3,none⟩=some (.int .i64 x.2.2.2))/\∀ j,w.frozen? ⟨A,j,none⟩=false:=by
 refine⟨⟨?_,?_,?_,?_⟩,λj=>?_⟩ <;> simp[World.cell?,World.frozen?,h]
abbrev KI (w:World) (ao:Option Addr) (l:List dP):Prop:=∀ i x,l[i]?=some x->∃ b off,ao=some ⟨b,off,none⟩/\True/\b<w.1.size/\∀ k u,(EO.cells x)[k]?=some u->w.cell? ⟨b,off+(i*EO.sz+k),none⟩=some u
theorem du (v)(l)(w)(hv:ey EO w v l) :
  Calls Tryz.prog 40 #[v] w λe w'=>e=.returned (.int .i64 (if Op.right 0 l=true then 0 else 4))/\Bw w w':=by
 obtain⟨P,K,rfl,C,D⟩:=hv.open;clear hv;unfold maxLen at C;obtain⟨n,q⟩:=qE l.length;rw[q]at C |-;have z:Hid _:=q;have F:Hid _:=D;obtain⟨r,s⟩:=qE (if Op.right 0 l=true then (0:Int) else 4);rw[s];have A:Hid _:=s;clear q D s;go_enter Tryz.func40,Tryz.ntmps40;go_wp2;go_loopw [3,8] (λt i O=>∃ (k:Nat) (t':Int),k<=n/\i=.int .i64 k/\t=.int .i64 t'/\0<=t'/\Hid (Op.right 0 l=Op.right t' (l.drop k))/\Hid (Bw w O)) (λ_ i _=>n-(intOf i).toNat)
 case atStart=>exact⟨0,0,MV _,rfl,rfl,Ng _,rfl,MJ _ _⟩
 case round =>
  obtain⟨k,t,Q,rfl,rfl,L,u,d⟩:=hrel;have a:=d.out.size
  by_cases hlt:k<n
  ·obtain⟨x,f⟩:∃ x,l[k]?=some x:=⟨_,MF (by rw[z.out];exact hlt)⟩;have g:Hid _:=f;obtain⟨b,M,rfl,-,N,E⟩:=F.out k x f;obtain⟨R,S,T,U⟩:=jO d N E;clear E f;have B:(k:Int)<(n:Int):=qo
   have c:Hid (¬ Op.lL t x->r=4):=λy=>by
    have:=A.out;rw[u.out,Op.uf g y]at this;exact this.symm
   have j:Hid (Op.lL t x->Op.right 0 l=Op.right (x.1+1) (l.drop (k+1))):=λy=>u.out.trans (Op.rP g y)
   by_cases g1:t<=x.1/\x.1<=15
   ·have m:Hid _:=g1
    by_cases g2:Op.Cl x.2.1
    ·have o:Hid _:=g2
     by_cases g3:Ho x.2.2.1 x.2.2.2
     ·have p:Hid _:=g3;have G:=g1.2;have I:Hid _:=j.out ⟨g1,g2,g3⟩;have J:0<=x.1:=qo
      clear g1 g2 g3;go_wp2_with fail;refine (dD _ _ _ _ m).mono ?_;rintro e w' ⟨rfl,rfl⟩;go_wp2_with fail;refine (nA _ _ o).mono ?_;rintro e w' ⟨rfl,rfl⟩;go_wp2_with fail;refine (xy _ _ _ p).mono ?_;rintro e w' ⟨rfl,rfl⟩;go_wp2
      go_roundw
      case rel=>exact⟨k+1,x.1+1,qo,by go_num,by go_num,qo,I,(d.alloc a _).alloc qt _⟩
      case measure=>simp[intOf];omega
     ·have H:Hid _:=c.out λh=>g3 h.2.2
      have p:Hid _:=g3;clear g1 g2 g3;go_wp2_with fail;refine (dD _ _ _ _ m).mono ?_;rintro e w' ⟨rfl,rfl⟩;go_wp2_with fail;refine (nA _ _ o).mono ?_;rintro e w' ⟨rfl,rfl⟩;go_wp2_with fail;refine (Hn _ _ _ p).mono ?_;rintro e w' ⟨rfl,rfl⟩;go_wp2;go_ret;rw[H.out];exact⟨rfl,(d.alloc a _).alloc qt _⟩
    ·have H:Hid _:=c.out λh=>g2 h.2.1
     have o:Hid _:=g2;clear g1 g2;go_wp2_with fail;refine (dD _ _ _ _ m).mono ?_;rintro e w' ⟨rfl,rfl⟩;go_wp2_with fail;refine (uJ _ _ o).mono ?_;rintro e w' ⟨rfl,rfl⟩;go_wp2;go_ret;rw[H.out];exact⟨rfl,d.alloc a _⟩
   ·have H:Hid _:=c.out λh=>g1 h.1
    have m:Hid _:=g1;clear g1;go_wp2_with fail;refine (ix _ _ _ _ m).mono ?_;rintro e w' ⟨rfl,rfl⟩;go_wp2;go_ret;rw[H.out];exact⟨rfl,d.alloc a _⟩
  ·obtain rfl:k=n:=qo
   have H:Hid (r=0):=by
    have:=A.out;rw[u.out,Op.se z.symm,MC rfl]at this;exact this.symm
   go_wp2;go_ret;rw[H.out];exact⟨rfl,d⟩
theorem dU (v:Value) (l:List dP) (c:Int) (w:World) (hv:ey EO w v l) :
  Calls Tryz.prog 193 #[v,.int .i64 c] w λe w'=>e=.returned (.int .i64 (Op.ask l c))/\Bw w w':=by
 have h:Hid _:=hv;clear hv;rcases Op.ns l c with⟨a,b,f⟩ | ⟨a,b,f⟩ | ⟨a,b⟩
 ·have d:Hid ((if Op.right 0 l=true then (0:Int) else 4)=0):=MC b;have i:Hid _:=f;rw[a];clear a b f;go_enter Tryz.func193,Tryz.ntmps193;go_wp2_with fail;refine (du v l _ h.out).mono ?_;rintro e j ⟨rfl,g⟩;rw[d.out];go_wp2_with fail;refine (nA _ _ i.out).mono ?_;rintro e k ⟨rfl,rfl⟩;go_wp2;go_ret;exact⟨rfl,g⟩
 ·have d:Hid ((if Op.right 0 l=true then (0:Int) else 4)=0):=MC b;have i:Hid _:=f;rw[a];clear a b f;go_enter Tryz.func193,Tryz.ntmps193;go_wp2_with fail;refine (du v l _ h).mono ?_;rintro e j ⟨rfl,g⟩;rw[d.out];go_wp2_with fail;refine (uJ _ _ i.out).mono ?_;rintro e k ⟨rfl,rfl⟩;go_wp2;go_ret;exact⟨rfl,g⟩
 ·have d:Hid ((if Op.right 0 l=true then (0:Int) else 4)=4):=ME (by rw[b];decide);rw[a];clear a b;go_enter Tryz.func193,Tryz.ntmps193;go_wp2_with fail;refine (du v l _ h).mono ?_;rintro e j ⟨rfl,g⟩;rw[d.out];go_wp2;go_ret;exact⟨rfl,g⟩
theorem vU (v)(l)(w)(hv:ey EO w v l) :
  Calls Tryz.prog 194 #[v] w λe w'=>e=.returned (.int .i64 (Op.least 0 l:Nat))/\Bw w w':=by
 obtain⟨F,B,rfl,s,t⟩:=hv.open;clear hv;unfold maxLen at s;obtain⟨n,h⟩:=qE l.length;rw[h]at s |-;have o:Hid _:=h;have y:Hid _:=t;obtain⟨r,j⟩:=qE (Op.least 0 l);rw[j];have p:Hid _:=j;clear h t j;go_enter Tryz.func194,Tryz.ntmps194;go_wp2;go_loopw [7] (λi E=>∃ (k:Nat),k<=n/\i=.int .i64 k/\Hid (Op.least 0 l=Op.least k (l.drop k))/\Hid (Bw w E)) (λi _=>n-(intOf i).toNat)
 case atStart=>exact⟨0,MV _,rfl,rfl,MJ _ _⟩
 case round =>
  obtain⟨k,G,rfl,m,f⟩:=hrel;have c:=f.out.size
  by_cases hlt:k<n
  ·obtain⟨x,a⟩:∃ x,l[k]?=some x:=⟨_,MF (by rw[o.out];exact hlt)⟩;have d:Hid _:=a;obtain⟨b,C,rfl,-,D,u⟩:=y.out k x a;obtain⟨I,J,K,L⟩:=jO f D u;clear u a;have q:(k:Int)<(n:Int):=qo
   by_cases g:x.1=(k:Int)
   ·have z:Hid _:=m.out.trans (Op.DB d g);have A:(x.1==(k:Int))=true:=by simp[g]
    clear g;go_wp2
    go_roundw
    case rel=>exact⟨k+1,qo,by go_num,z,f.alloc c _⟩
    case measure=>simp[intOf];omega
   ·have H:Hid (r=k):=by
     have:=p.out;rw[m.out,Op.GP d g]at this;exact this.symm
    have A:=MQ.2 g;clear g;go_wp2;go_ret;rw[H.out];exact⟨rfl,f.alloc c _⟩
  ·obtain rfl:k=n:=qo
   have H:Hid (r=k):=by
    have:=p.out;rw[m.out,Op.Dq o.symm]at this;exact this.symm
   go_wp2;go_ret;rw[H.out];exact⟨rfl,f⟩
theorem at_one {w:World}{B:Nat}{x:dP}(h:w.1[B]?=some (BO x)):ey EO w (.slice (some ⟨B,0,none⟩) 1 1) [x]:=by
 refine .inr ⟨B,0,1,rfl,trivial,(qL h),qs,qs,qd,λj u a=>?_⟩;simp only[World.cell?,h,Nat.zero_add];simpa [fY.flat,EO]using a
theorem vf (wr:World) (x:dP):ey EO ((wr.alloc (BO x)).alloc (BO x)) (.slice (some ⟨wr.heap.size+1,0,none⟩) 1 1) [x]:=by
 have a:=MD (wr.alloc (BO x)) (BO x);rw[show (wr.alloc (BO x)).1.size=wr.1.size+1 by simp]at a;exact at_one a
namespace Op
theorem wL {l:List dP}{p:dP->Bool}{k:Nat}{x:dP}(h:l[k]?=some x)(hp:p x=true):(l.take (k+1)).filter p=(l.take k).filter p++[x]:=by
 rw[take_at h,Ov];simp[hp]
theorem vD {l:List dP}{p:dP->Bool}{k:Nat}{x:dP}(h:l[k]?=some x)(hp:p x=false):(l.take (k+1)).filter p=(l.take k).filter p:=by
 rw[take_at h,Ov];simp[hp]
theorem uh (l:List dP)(p:dP->Bool)(k:Nat):((l.take k).filter p).length<=k:=MS (OH _ _) (by simp;omega)
end Op
theorem El (v:Value)(l:List dP)(c:Int)(w:World)(hv:ey EO w v l)(hl:l.length<=4398046511104) :
  Calls Tryz.prog 196 #[v,.int .i64 c] w λe w'=>∃ p n q,e=.returned (.slice p n q)/\At EO (λb=>w.1.size<=b) w' (.slice p n q) (Op.owned l c)/\Bw w w':=by
 obtain⟨W,X,rfl,-,O⟩:=hv.open;clear hv;obtain⟨n,H⟩:=qE l.length;rw[H]at hl |-;have M:Hid (l.length=n):=H;have T:Hid (KI w W l):=O;obtain⟨Y,Z,I,J,K⟩:=NQ C0;obtain⟨p,P⟩:∃ p:dP->Bool,p=λx=>x.2.1==c:=⟨_,rfl⟩
 have D:Hid (p=λx=>x.2.1==c):=P;clear H O P;go_enter Tryz.func196,Tryz.ntmps196;go_wp2;go_loopw [5,10] (λu i wr=>∃ (k:Nat) (j:Option Addr) (m q:Nat),k<=n/\i=.int .i64 k/\u=.slice j m q/\Hid (Row EO wr w.1.size 90 (.slice j m q) ((l.take k).filter p))/\Hid (Bw w wr)) (λ_ i _=>n-(intOf i).toNat)
 case atStart=>exact⟨0,none,0,0,MV _,rfl,rfl,by rw[List.take_zero];exact Row.nil _ _ _ _,MJ _ _⟩
 case round =>
  obtain⟨k,j,m,q,Q,rfl,rfl,L,z⟩:=hrel;have s:=z.out.size
  by_cases hlt:k<n
  ·obtain⟨x,o⟩:∃ x,l[k]?=some x:=⟨_,MF (by rw[M.out];exact hlt)⟩;have t:Hid (l[k]?=some x):=o;obtain⟨b,aa,rfl,-,hB,R⟩:=T.out k x o;obtain⟨c0,c1,c2,c3⟩:=jO z.out hB R;clear R o;have N:(k:Int)<(n:Int):=by omega
   have h:Hid (((l.take k).filter p).length<=k):=Op.uh l p k
   by_cases g:x.2.1=c
   ·have E:Hid ((l.take (k+1)).filter p=(l.take k).filter p++[x]):=Op.wL t.out (by rw[D.out];simp[g]);have U:(x.2.1==c)=true:=by simp[g]
    have y:Hid (Row EO ((wr.alloc (BO x)).alloc (BO x)) w.1.size 90 (.slice j m q) ((l.take k).filter p)):=(L.out.up (qG _ _)).up (qG _ _);have F:Hid (Bw w ((wr.alloc (BO x)).alloc (BO x))):=(z.out.alloc s _).alloc (by simp;omega) _;have V:=hH<|vf wr x;clear g
    go_wp2_with (at_builtin;refine eF _ rfl _ _ 26 rfl EO (λ_=>True) w.1.size 90 Y _ 32 Tryz.underlying26 Z I J K rfl _ ((l.take k).filter p) rfl y _ [x] rfl V (by have:=h.out;unfold maxLen;simp only[List.length_cons,List.length_nil];omega) (by have:=h.out;simp only[List.length_cons,List.length_nil];omega) qt ?_;intro v7 S d A r)
    have a:Hid (Row EO S w.1.size 90 v7 ((l.take (k+1)).filter p)/\Bw w S):=⟨by rw[E.out];exact d,F.grown A qt (λk Q=>(y.out.lt k Q).1)⟩;clear d A r;obtain⟨p7,c7,B⟩:=a.out.1.slice;obtain⟨n7,C⟩:=qE (((l.take (k+1)).filter p).length);rw[C]at B;subst B;clear C;go_wp2
    go_roundw
    case rel=>exact⟨k+1,p7,n7,c7,by omega,by go_num,rfl,a.out.1,a.out.2⟩
    case measure=>simp[intOf];omega
   ·have E:Hid ((l.take (k+1)).filter p=(l.take k).filter p):=Op.vD t.out (by rw[D.out];simp[g]);have U:(x.2.1==c)=false:=MQ.2 g;have G:Hid (Row EO (wr.alloc (BO x)) w.1.size 90 (.slice j m q) ((l.take k).filter p)):=L.out.up (qG _ _);clear g;go_wp2
    go_roundw
    case rel=>exact⟨k+1,j,m,q,qo,by go_num,rfl,by rw[E.out];exact G,z.alloc s _⟩
    case measure=>simp[intOf];omega
  ·obtain rfl:k=n:=qo
   have a:Hid (At EO (λb=>w.1.size<=b) wr (.slice j m q) (Op.owned l c)):=by
    have:=L.out.at;rw[<-M.out,Ns,D.out]at this;exact this
   go_wp2;go_ret;exact⟨_,_,_,rfl,a,z⟩
theorem oz (v)(l)(y:dP)(w)(hv:ey EO w v l) :
  Calls Tryz.prog 219 #[v,VO y] w λe w'=>∃ i:Int,e=.returned (.int .i64 i)/\(0<=i ↔ y∈l)/\Bw w w':=by
 obtain⟨J,E,rfl,u,z⟩:=hv.open;clear hv;unfold maxLen at u;obtain⟨n,p⟩:=qE l.length;rw[p]at u |-;have r:Hid _:=p;have C:Hid _:=z;obtain⟨W,j⟩:=qF (w.alloc (BO y));have m:Hid _:=qB j;have d:=hH<|show W.heap[w.heap.size]?=some (BO y) by rw[j];exact MD w (BO y)
 clear p z;go_enter Tryz.func219,Tryz.ntmps219;go_wp2;rw[<-j];clear j;go_loopw [5,8] (λt i I=>∃ (k:Nat),k<=n/\i=.int .i64 k/\Hid (y ∉ l.take k)/\Hid (Bw W I)) (λ_ i _=>n-(intOf i).toNat)
 case atStart=>exact⟨0,MV _,rfl,by show y ∉ l.take 0;simp,MJ _ _⟩
 case round =>
  obtain⟨k,K,rfl,A,q⟩:=hrel;have a:=qJ m q;obtain⟨⟨L,M,N,O⟩,-⟩:=yj ((q.block _ (qL d)).trans d)
  by_cases hlt:k<n
  ·obtain⟨x,c⟩:∃ x,l[k]?=some x:=⟨_,MF (by rw[r.out];exact hlt)⟩;have f:Hid _:=c;obtain⟨b,F,rfl,-,G,B⟩:=C.out k x c;obtain⟨P,Q,R,S⟩:=jO a G B;clear B c;have s:(k:Int)<(n:Int):=qo
   by_cases g:y=x
   ·subst g;have H:Hid _:=MG f;go_wp2
    go_quiet (fail)
    go_wp2;go_ret;exact⟨k,rfl,⟨λ_=>H.out,λ_=>by omega⟩,below_drewN a.out _⟩
   ·have o:=hH<|show y ∉ l.take (k+1) by
     rw[Op.take_at f];simp[g,A.out]
    have D:∀ w',(binOp .eql 90 (VO y) (VO x)).run Tryz.prog w'=.ok (.bool false) w':=λw'=>by rw[I3,MO g]
    clear g;go_wp2
    go_quiet (fail)
    go_wp2
    go_roundw
    case rel=>exact⟨k+1,qo,by go_num,o,below_drewN q _⟩
    case measure=>simp[intOf];omega
  ·obtain rfl:k=n:=qo
   have H:Hid (y ∉ l):=by
    have:=A.out
    rwa [<-r.out,Ns]at this
   go_wp2;go_ret;exact⟨-1,rfl,⟨λh=>by omega,λh=>absurd h H⟩,a⟩
end Go.Proofs.YtiifhfmekbhlnaaGreat.Os
namespace Go.Proofs.YtiifhfmekbhlnaaGreat.Os
open ChangeShapes WideShapes ChangeAt RowKit Deep
theorem mr (v:Value)(l:List dP)(y:dP)(w:World)(hv:ey EO w v l)(h:y∈l) :
  Calls Tryz.prog 212 #[v,VO y] w λe w'=>e = .returned (.bool true)/\Bw w w':=by
 have a:Hid (Bw w (w.alloc (BO y))):=qG _ _;have f:Hid _:=hv.up a;have H:Hid _:=h;clear hv h;go_enter Tryz.func212,Tryz.ntmps212;go_wp2_with fail;refine (oz v l y _ f).mono ?_;rintro e j ⟨i,rfl,c,d⟩;have g:=c.2 H;have b:Hid _:=a.out.trans (d.mono qs);clear c d;go_wp2;go_ret;exact⟨rfl,b⟩
theorem nR (v:Value)(l:List dP)(y:dP)(w:World)(hv:ey EO w v l)(h:y ∉ l) :
  Calls Tryz.prog 212 #[v,VO y] w λe w'=>e = .returned (.bool false)/\Bw w w':=by
 have a:Hid (Bw w (w.alloc (BO y))):=qG _ _;have f:Hid _:=hv.up a;have H:Hid _:=h;clear hv h;go_enter Tryz.func212,Tryz.ntmps212;go_wp2_with fail;refine (oz v l y _ f).mono ?_;rintro e j ⟨i,rfl,c,d⟩;have g:=MO λh=>H.out (c.1 h)
 have b:Hid _:=a.out.trans (d.mono qs);clear c d;go_wp2;go_ret;exact⟨rfl,b⟩
theorem AP (v u)(l g)(w)(hv:ey EO w v l)(hu:ey EO w u g)(hl:l.length<=4398046511104) :
  Calls Tryz.prog 197 #[v,u] w λe w'=>∃ p n q,e=.returned (.slice p n q)/\At EO (λb=>w.1.size<=b) w' (.slice p n q) (Op.gP l g)/\Bw w w':=by
 obtain⟨ao,aa,rfl,-,U⟩:=hv.open;have R:=hH hu;clear hv hu;obtain⟨n,M⟩:=qE l.length;rw[M]at hl |-;have S:=hH M;have Z:=hH U;obtain⟨j0,hj,N,O,P⟩:=NQ C0;obtain⟨p,V⟩:∃ p:dP->Bool,p=λx=>decide (x ∉ g):=⟨_,rfl⟩
 have H:Hid (p=λx=>decide (x ∉ g)):=V;clear M U V;go_enter Tryz.func197,Tryz.ntmps197;go_wp2;go_loopw [5,10] (λt i wr=>∃ (k:Nat) (o:Option Addr) (r q:Nat),k<=n/\i=.int .i64 k/\t=.slice o r q/\Hid (Row EO wr w.1.size 90 (.slice o r q) ((l.take k).filter p))/\Hid (Bw w wr)) (λ_ i _=>n-(intOf i).toNat)
 case atStart=>exact⟨0,none,0,0,MV _,rfl,rfl,by rw[List.take_zero];exact Row.nil _ _ _ _,MJ _ _⟩
 case round =>
  obtain⟨k,o,r,q,W,rfl,rfl,Q,s⟩:=hrel;have A:=s.out.size
  by_cases hlt:k<n
  ·obtain⟨x,y⟩:∃ x,l[k]?=some x:=⟨_,MF (by rw[S.out];exact hlt)⟩;have B:=hH y;obtain⟨b,ab,rfl,-,hB,X⟩:=Z.out k x y;obtain⟨c0,c1,c2,c3⟩:=jO s hB X;clear X y;have T:(k:Int)<(n:Int):=by omega
   have j:=hH<|Op.uh l p k
   by_cases g1:x ∉ g
   ·have I:Hid ((l.take (k+1)).filter p=(l.take k).filter p++[x]):=Op.wL B.out (by rw[H.out];simp[g1]);have m:Hid (x ∉ g):=g1;clear g1;go_wp2_with fail;refine (nR _ g x _ ((R.out.up s.out).up (qG _ _)) m.out).mono ?_;rintro e h ⟨rfl,c⟩;obtain⟨⟨z0,z1,z2,z3⟩,-⟩:=yj ((c.block wr.1.size (by simp)).trans (MD wr (BO x)));have f:Hid (Bw w h):=(s.out.alloc A _).trans (c.mono (by simp;omega));have J:=f.out.size;have C:Hid (Row EO (h.alloc (BO x)) w.1.size 90 (.slice o r q) ((l.take k).filter p)):=((Q.out.up (qG _ _)).up c).up (qG _ _);have K:Hid (Bw w (h.alloc (BO x))):=f.out.alloc J _;have HO:=hH<|at_one (MD h (BO x));clear c
    go_wp2_with (at_builtin;refine eF _ rfl _ _ 26 rfl EO (λ_=>True) w.1.size 90 j0 _ 32 Tryz.underlying26 hj N O P rfl _ ((l.take k).filter p) rfl C _ [x] rfl HO (by have:=j.out;unfold maxLen;simp only[List.length_cons,List.length_nil];omega) (by have:=j.out;simp only[List.length_cons,List.length_nil];omega) qt ?_;intro v7 Y d D z)
    have a:Hid (Row EO Y w.1.size 90 v7 ((l.take (k+1)).filter p)/\Bw w Y):=⟨by rw[I.out];exact d,K.grown D qt (λk W=>(C.lt k W).1)⟩;clear d D z;obtain⟨p7,c7,E⟩:=a.out.1.slice;obtain⟨n7,F⟩:=qE (((l.take (k+1)).filter p).length);rw[F]at E;subst E;clear F;go_wp2
    go_roundw
    case rel=>exact⟨k+1,p7,n7,c7,qo,by go_num,rfl,a.out.1,a.out.2⟩
    case measure=>simp[intOf];omega
   ·have I:Hid ((l.take (k+1)).filter p=(l.take k).filter p):=Op.vD B.out (by rw[H.out];simp at g1;simp[g1]);have m:=hH<|Classical.not_not.1 g1;clear g1;go_wp2_with fail;refine (mr _ g x _ ((R.up s).up (qG _ _)) m).mono ?_;rintro e h ⟨rfl,c⟩;have f:=hH<|(s.alloc A _).trans (c.mono qt);have L:=hH<|(Q.up (qG _ _)).up c;clear c;go_wp2
    go_roundw
    case rel=>exact⟨k+1,o,r,q,qo,by go_num,rfl,by rw[I.out];exact L,f⟩
    case measure=>simp[intOf];omega
  ·obtain rfl:k=n:=qo
   have a:Hid (At EO (λb=>w.1.size<=b) wr (.slice o r q) (Op.gP l g)):=by
    have:=Q.out.at;rw[<-S.out,Ns,H.out]at this;exact this
   go_wp2;go_ret;exact⟨_,_,_,rfl,a,s⟩
theorem ly {w:World}{A:Nat}{no gen:Int}(h:w.1[A]?=some (BH no gen)):w.cell? ⟨A,0,none⟩=some (.int .i64 no)/\w.cell? ⟨A,1,none⟩=some (.int .i64 gen):=by
 constructor <;> simp[World.cell?,h]
namespace Op
theorem IY {l:List dP}{no gen:Int}{k:Nat}{x:dP}(h:l[k]?=some x)(hx:(x.2.2.1==no&&x.2.2.2==gen)=true):held (l.take (k+1)) no gen=held (l.take k) no gen+1:=by
 unfold held;rw[take_at h,NP];simp only[List.countP_singleton,hx,if_true]
theorem Gc {l:List dP}{no gen:Int}{k:Nat}{x:dP}(h:l[k]?=some x)(hx:(x.2.2.1==no&&x.2.2.2==gen)=false):held (l.take (k+1)) no gen=held (l.take k) no gen:=by
 unfold held;rw[take_at h,NP];simp[hx]
end Op
theorem F3 (v)(l)(no gen)(w)(hv:ey EO w v l) :
  Calls Tryz.prog 110 #[v,VH no gen] w λe w'=>e=.returned (.int .i64 (Op.held l no gen:Nat))/\Bw w w':=by
 obtain⟨R,K,rfl,D,E⟩:=hv.open;clear hv;unfold maxLen at D;obtain⟨n,u⟩:=qE l.length;rw[u]at D |-;have A:Hid _:=u;have G:Hid _:=E;obtain⟨r,y⟩:=qE (Op.held l no gen);rw[y];have I:Hid _:=y;obtain⟨W,j⟩:=qF (w.alloc (BH no gen));have p:Hid _:=qB j;have c:=hH<|show W.heap[w.heap.size]? = some (BH no gen) by rw[j];exact MD w (BH no gen)
 have J:W.1.size=w.1.size+1:=by rw[j];simp
 clear u E y;go_enter Tryz.func110,Tryz.ntmps110;go_wp2;rw[<-j];clear j;go_loopw [5,10] (λt i Q=>∃ (k m:Nat),k<=n/\m<=k/\i=.int .i64 k/\t=.int .i64 m/\Hid (m=Op.held (l.take k) no gen)/\Hid (Bw W Q)) (λ_ i _=>n-(intOf i).toNat)
 case atStart=>exact⟨0,0,MV _,qn,rfl,rfl,rfl,MJ _ _⟩
 case round =>
  obtain⟨k,m,S,L,rfl,rfl,z,o⟩:=hrel;have d:=o.out.size;have f:=qJ p o;obtain⟨M,N⟩:=ly ((o.block _ (qL c)).trans c)
  by_cases hlt:k<n
  ·obtain⟨x,a⟩:∃ x,l[k]?=some x:=⟨_,MF (by rw[A.out];exact hlt)⟩;have h:Hid _:=a;obtain⟨b,O,rfl,-,P,F⟩:=G.out k x a;obtain⟨T,U,V,X⟩:=jO f P F;clear F a;rw[<-dh qo (BO x)]at M N;have B:(k:Int)<(n:Int):=qo
   cases g:(x.2.2.1==no&&x.2.2.2==gen)with
   | true =>
    have q:Hid _:=Op.IY h g;have s:∀ w',(binOp .eql 57 (VH x.2.2.1 x.2.2.2) (VH no gen)).run Tryz.prog w'=.ok (.bool true) w':=λw'=>by rw[zM,g]
    clear g;go_wp2
    go_roundw
    case rel=>exact⟨k+1,m+1,qo,qo,by go_num,by go_num,by rw[q.out,<-z.out];exact rfl,o.alloc d _⟩
    case measure=>simp[intOf];omega
   | false =>
    have q:Hid _:=Op.Gc h g;have s:∀ w',(binOp .eql 57 (VH x.2.2.1 x.2.2.2) (VH no gen)).run Tryz.prog w'=.ok (.bool false) w':=λw'=>by rw[zM,g]
    clear g;go_wp2
    go_roundw
    case rel=>exact⟨k+1,m,qo,qo,by go_num,rfl,by rw[q.out,<-z.out];exact rfl,o.alloc d _⟩
    case measure=>simp[intOf];omega
  ·obtain rfl:k=n:=qo
   have H:Hid (r=m):=by
    have:=I.out;have C:=z.out;rw[<-A.out,Ns,this]at C;exact C.symm
   go_wp2;go_ret;rw[H.out];exact⟨rfl,f⟩
end Go.Proofs.YtiifhfmekbhlnaaGreat.Os
namespace Go.Proofs.YtiifhfmekbhlnaaGreat
section
open ChangeShapes WideShapes ChangeAt RowKit Deep It
def uw {α:Type} (p:α->Bool) (l:List α):Int:=match l.findIdx? p with | some k=>(k:Int) | none=>-1
theorem p5 {α:Type}{p:α->Bool}{l:List α}{k:Nat}{x:α}(h:l[k]?=some x)(hp:p x=true)(hb:∀ j y,j<k->l[j]?=some y->p y=false):uw p l=k:=by
 unfold uw;have a:=(qM h);have b:=(MN.1 h).2;have:l.findIdx? p=some k:=by
  rw[N4];refine⟨a,by rw[b];exact hp,λj c=>?_⟩;have:=hb j _ c (MF qo);simp[this]
 rw[this]
theorem n6 {α:Type}{p:α->Bool}{l:List α}(hb:∀ j y,j<l.length->l[j]?=some y->p y=false):uw p l = -1:=by
 unfold uw;have:l.findIdx? p=none:=by
  rw[OI];intro x b;obtain⟨j,a⟩:=M1.1 b;exact hb j x (qM a) a
 rw[this]
theorem tC {α:Type}(p:α->Bool)(l:List α):decide (0<=uw p l)=l.any p:=by
 unfold uw
 cases h:l.findIdx? p with
 | none =>
  rw[OI]at h;have:l.any p=false:=OM.2 λx c=>by rw[h x c];simp
  rw[this];rfl
 | some k =>
  rw[N4]at h;obtain⟨a,b,-⟩:=h;have:=List.any_eq_true.2 ⟨_,List.getElem_mem a,b⟩;rw[this];simp
theorem Lh (v)(l)(p:(Int × Int)->Bool)(b)(w)(hv:ey EH w v l)(hp:∀ x∈l,∀ V,Bw w V->Calls Tryz.prog 107 #[.agg #[.int .i64 x.1,.int .i64 x.2],.pointer (some ⟨b,0,none⟩)] V λe w'=>e=.returned (.bool (p x))/\Bw V w') :
  Calls Tryz.prog 112 #[v,VF 107 b] w λe w'=>e=.returned (.int .i64 (uw p l))/\Bw w w':=by
 obtain⟨R,N,rfl,K,L⟩:=hv.open;clear hv;unfold maxLen at K;obtain⟨n,D⟩:=qE l.length;rw[D]at K |-;have I:Hid _:=D;have M:Hid _:=L;have t:Hid _:=hp;clear D L hp;go_enter Tryz.func112,Tryz.ntmps112;go_wp2;go_loopw [8] (λi wr=>∃ k:Nat,k<=n/\i=.int .i64 k/\Hid (∀ j y,j<k->l[j]?=some y->p y=false)/\Hid (Bw w wr)) (λi _=>n-(intOf i).toNat)
 case atStart=>exact⟨0,MV _,rfl,λj y s=>by omega,MJ _ _⟩
 case round =>
  obtain⟨k,S,rfl,E,h⟩:=hrel
  by_cases hlt:k<n
  ·obtain⟨x,c⟩:∃ x,l[k]?=some x:=⟨_,MF (by rw[I.out];exact hlt)⟩;have f:Hid _:=c;obtain⟨F,d,rfl,-,O,m⟩:=M.out k x c;have a:=λj u s=>(h.cell (p:=⟨F,d+(k*EH.sz+j),none⟩) O).trans (m j u s)
   have P:wr.cell? ⟨F,d+k*2,none⟩=some (.int .i64 x.1):=a 0 _ rfl;have Q:wr.cell? ⟨F,d+k*2+1,none⟩=some (.int .i64 x.2):=a 1 _ rfl;have z:=h.out.size;have A:=t.out x (MG c);clear a m c;have J:(k:Int)<(n:Int):=by omega
   obtain⟨r,o⟩:=qE (p x);go_wp2_with fail;refine (A _ h).mono ?_;rintro e T ⟨rfl,q⟩;rw[o];have g:Hid _:=h.out.trans (q.mono z);clear q
   cases r with
   | true =>
    have B:Hid _:=p5 f o E;clear o A;go_wp2;go_ret;rw[B.out];exact⟨rfl,g⟩
   | false =>
    have C:Hid (∀ j y,j<k+1->l[j]?=some y->p y=false):=λj y s H=>by
     by_cases e:j=k
     ·subst e;rw[f.out]at H
      cases H
      exact o
     ·exact E j y qo H
    clear o A;go_wp2
    go_roundw
    case rel=>exact⟨k+1,qo,by go_num,C,g⟩
    case measure=>simp[intOf];omega
  ·obtain rfl:k=n:=qo
   have B:Hid _:=n6 λj y s=>E.out j y (by rw[<-I.out];exact s)
   go_wp2;go_ret;rw[B.out];exact⟨rfl,h⟩
theorem Ll (v)(l)(p:(Int × Int)->Bool)(b)(w)(hv:ey EH w v l)(hp:∀ x∈l,∀ V,Bw w V->Calls Tryz.prog 71 #[.agg #[.int .i64 x.1,.int .i64 x.2],.pointer (some ⟨b,0,none⟩)] V λe w'=>e=.returned (.bool (p x))/\Bw V w') :
  Calls Tryz.prog 112 #[v,VF 71 b] w λe w'=>e=.returned (.int .i64 (uw p l))/\Bw w w':=by
 obtain⟨R,N,rfl,K,L⟩:=hv.open;clear hv;unfold maxLen at K;obtain⟨n,D⟩:=qE l.length;rw[D]at K |-;have I:Hid _:=D;have M:Hid _:=L;have t:Hid _:=hp;clear D L hp;go_enter Tryz.func112,Tryz.ntmps112;go_wp2;go_loopw [8] (λi wr=>∃ k:Nat,k<=n/\i=.int .i64 k/\Hid (∀ j y,j<k->l[j]?=some y->p y=false)/\Hid (Bw w wr)) (λi _=>n-(intOf i).toNat)
 case atStart=>exact⟨0,MV _,rfl,λj y s=>by omega,MJ _ _⟩
 case round =>
  obtain⟨k,S,rfl,E,h⟩:=hrel
  by_cases hlt:k<n
  ·obtain⟨x,c⟩:∃ x,l[k]?=some x:=⟨_,MF (by rw[I.out];exact hlt)⟩;have f:Hid _:=c;obtain⟨F,d,rfl,-,O,m⟩:=M.out k x c;have a:=λj u s=>(h.cell (p:=⟨F,d+(k*EH.sz+j),none⟩) O).trans (m j u s)
   have P:wr.cell? ⟨F,d+k*2,none⟩=some (.int .i64 x.1):=a 0 _ rfl;have Q:wr.cell? ⟨F,d+k*2+1,none⟩=some (.int .i64 x.2):=a 1 _ rfl;have z:=h.out.size;have A:=t.out x (MG c);clear a m c;have J:(k:Int)<(n:Int):=by omega
   obtain⟨r,o⟩:=qE (p x);go_wp2_with fail;refine (A _ h).mono ?_;rintro e T ⟨rfl,q⟩;rw[o];have g:Hid _:=h.out.trans (q.mono z);clear q
   cases r with
   | true =>
    have B:Hid _:=p5 f o E;clear o A;go_wp2;go_ret;rw[B.out];exact⟨rfl,g⟩
   | false =>
    have C:Hid (∀ j y,j<k+1->l[j]?=some y->p y=false):=λj y s H=>by
     by_cases e:j=k
     ·subst e;rw[f.out]at H
      cases H
      exact o
     ·exact E j y qo H
    clear o A;go_wp2
    go_roundw
    case rel=>exact⟨k+1,qo,by go_num,C,g⟩
    case measure=>simp[intOf];omega
  ·obtain rfl:k=n:=qo
   have B:Hid _:=n6 λj y s=>E.out j y (by rw[<-I.out];exact s)
   go_wp2;go_ret;rw[B.out];exact⟨rfl,h⟩
theorem LF (v)(l)(p:(Int × Int)->Bool)(b)(w)(hv:ey EH w v l)(hp:∀ x∈l,∀ V,Bw w V->Calls Tryz.prog 71 #[.agg #[.int .i64 x.1,.int .i64 x.2],.pointer (some ⟨b,0,none⟩)] V λe w'=>e=.returned (.bool (p x))/\Bw V w') :
  Calls Tryz.prog 74 #[v,VF 71 b] w λe w'=>e=.returned (.bool (l.any p))/\Bw w w':=by
 have c:Hid (∀ V,w=V->Calls Tryz.prog 112 #[v,VF 71 b] V λe w'=>e=.returned (.int .i64 (uw p l))/\Bw w w'):=λV h=>by subst h;exact Ll v l p b w hv hp
 obtain⟨m,i,rfl,j,k⟩:=hv.open;obtain⟨r,f⟩:=qE (uw p l);rw[<-tC,f];rw[f]at c;obtain⟨n,g⟩:=qE l.length;rw[g]at c |-;clear k hv hp f j g;go_enter Tryz.func74,Tryz.ntmps74;go_wp2_with fail;refine (c _ rfl).mono ?_;rintro e o ⟨rfl,a⟩;have d:Hid _:=a;clear a c;go_wp2;go_ret;exact⟨rfl,d⟩
theorem Lm (v)(l)(p:Os.dP->Bool)(b)(w)(hv:ey Os.EO w v l)(hp:∀ x∈l,∀ V,Bw w V->Calls Tryz.prog 69 #[.agg #[.int .i64 x.1,.int .i64 x.2.1,.int .i64 x.2.2.1,.int .i64 x.2.2.2],.pointer (some ⟨b,0,none⟩)] V λe w'=>e=.returned (.bool (p x))/\Bw V w') :
  Calls Tryz.prog 111 #[v,VF 69 b] w λe w'=>e=.returned (.int .i64 (uw p l))/\Bw w w':=by
 obtain⟨T,N,rfl,K,L⟩:=hv.open;clear hv;unfold maxLen at K;obtain⟨n,F⟩:=qE l.length;rw[F]at K |-;have I:Hid _:=F;have M:Hid _:=L;have A:Hid _:=hp;clear F L hp;go_enter Tryz.func111,Tryz.ntmps111;go_wp2;go_loopw [8] (λi wr=>∃ k:Nat,k<=n/\i=.int .i64 k/\Hid (∀ j y,j<k->l[j]?=some y->p y=false)/\Hid (Bw w wr)) (λi _=>n-(intOf i).toNat)
 case atStart=>exact⟨0,MV _,rfl,λj y z=>by omega,MJ _ _⟩
 case round =>
  obtain⟨k,U,rfl,G,h⟩:=hrel
  by_cases hlt:k<n
  ·obtain⟨x,d⟩:∃ x,l[k]?=some x:=⟨_,MF (by rw[I.out];exact hlt)⟩;have f:Hid _:=d;obtain⟨m,c,rfl,-,O,o⟩:=M.out k x d;have a:=λj u z=>(h.cell (p:=⟨m,c+(k*Os.EO.sz+j),none⟩) O).trans (o j u z)
   have P:wr.cell? ⟨m,c+k*4,none⟩=some (.int .i64 x.1):=a 0 _ rfl;have Q:wr.cell? ⟨m,c+k*4+1,none⟩=some (.int .i64 x.2.1):=a 1 _ rfl;have R:wr.cell? ⟨m,c+k*4+2,none⟩=some (.int .i64 x.2.2.1):=a 2 _ rfl;have S:wr.cell? ⟨m,c+k*4+3,none⟩=some (.int .i64 x.2.2.2):=a 3 _ rfl;have B:=h.out.size;have C:=A.out x (MG d);clear a o d;have J:(k:Int)<(n:Int):=by omega
   obtain⟨r,q⟩:=qE (p x);go_wp2_with fail;refine (C _ h).mono ?_;rintro e W ⟨rfl,s⟩;rw[q];have g:Hid _:=h.out.trans (s.mono B);clear s
   cases r with
   | true =>
    have D:Hid _:=p5 f q G;clear q C;go_wp2;go_ret;rw[D.out];exact⟨rfl,g⟩
   | false =>
    have E:Hid (∀ j y,j<k+1->l[j]?=some y->p y=false):=λj y z H=>by
     by_cases e:j=k
     ·subst e;rw[f.out]at H
      cases H
      exact q
     ·exact G j y qo H
    clear q C;go_wp2
    go_roundw
    case rel=>exact⟨k+1,qo,by go_num,E,g⟩
    case measure=>simp[intOf];omega
  ·obtain rfl:k=n:=qo
   have D:Hid _:=n6 λj y z=>G.out j y (by rw[<-I.out];exact z)
   go_wp2;go_ret;rw[D.out];exact⟨rfl,h⟩
theorem Li (v)(l)(p:Os.dP->Bool)(b)(w)(hv:ey Os.EO w v l)(hp:∀ x∈l,∀ V,Bw w V->Calls Tryz.prog 69 #[.agg #[.int .i64 x.1,.int .i64 x.2.1,.int .i64 x.2.2.1,.int .i64 x.2.2.2],.pointer (some ⟨b,0,none⟩)] V λe w'=>e=.returned (.bool (p x))/\Bw V w') :
  Calls Tryz.prog 73 #[v,VF 69 b] w λe w'=>e=.returned (.bool (l.any p))/\Bw w w':=by
 have c:Hid (∀ V,w=V->Calls Tryz.prog 111 #[v,VF 69 b] V λe w'=>e=.returned (.int .i64 (uw p l))/\Bw w w'):=λV h=>by subst h;exact Lm v l p b w hv hp
 obtain⟨m,i,rfl,j,k⟩:=hv.open;obtain⟨r,f⟩:=qE (uw p l);rw[<-tC,f];rw[f]at c;obtain⟨n,g⟩:=qE l.length;rw[g]at c |-;clear k hv hp f j g;go_enter Tryz.func73,Tryz.ntmps73;go_wp2_with fail;refine (c _ rfl).mono ?_;rintro e o ⟨rfl,a⟩;have d:Hid _:=a;clear a c;go_wp2;go_ret;exact⟨rfl,d⟩
theorem Ls (v)(l)(p:Rw->Bool)(b)(w)(hv:ey EI w v l)(hp:∀ x∈l,∀ V,Bw w V->Calls Tryz.prog 76 #[VI x,.pointer (some ⟨b,0,none⟩)] V λe w'=>e=.returned (.bool (p x))/\Bw V w') :
  Calls Tryz.prog 113 #[v,VF 76 b] w λe w'=>e=.returned (.int .i64 (uw p l))/\Bw w w':=by
 obtain⟨Y,N,rfl,K,L⟩:=hv.open;clear hv;unfold maxLen at K;obtain⟨n,F⟩:=qE l.length;rw[F]at K |-;have I:Hid _:=F;have M:Hid _:=L;have A:Hid _:=hp;clear F L hp;go_enter Tryz.func113,Tryz.ntmps113;go_wp2;go_loopw [8] (λi wr=>∃ k:Nat,k<=n/\i=.int .i64 k/\Hid (∀ j y,j<k->l[j]?=some y->p y=false)/\Hid (Bw w wr)) (λi _=>n-(intOf i).toNat)
 case atStart=>exact⟨0,MV _,rfl,λj y z=>by omega,MJ _ _⟩
 case round =>
  obtain⟨k,Z,rfl,G,o⟩:=hrel
  by_cases hlt:k<n
  ·obtain⟨x,d⟩:∃ x,l[k]?=some x:=⟨_,MF (by rw[I.out];exact hlt)⟩;have h:Hid _:=d;obtain⟨f,c,rfl,-,O,q⟩:=M.out k x d;have a:=λj u z=>(o.cell (p:=⟨f,c+(k*EI.sz+j),none⟩) O).trans (q j u z)
   have P:wr.cell? ⟨f,c+k*8,none⟩=some (.int .i64 x.i.gen):=a 0 _ rfl;have Q:wr.cell? ⟨f,c+k*8+1,none⟩=some (.int .i64 x.i.kind):=a 1 _ rfl;have R:wr.cell? ⟨f,c+k*8+2,none⟩=some (.int .i64 x.i.cH):=a 2 _ rfl;have S:wr.cell? ⟨f,c+k*8+3,none⟩=some (.int .i64 x.i.size):=a 3 _ rfl;have T:wr.cell? ⟨f,c+k*8+4,none⟩=some (.int .i64 x.i.cF):=a 4 _ rfl;have U:wr.cell? ⟨f,c+k*8+5,none⟩=some (.slice x.rp x.rn x.rc):=a 5 _ rfl;have W:wr.cell? ⟨f,c+k*8+6,none⟩=some (.slice x.ep x.en x.ec):=a 6 _ rfl;have X:wr.cell? ⟨f,c+k*8+7,none⟩=some (.int .i64 x.i.next):=a 7 _ rfl;have B:=o.out.size;have C:=A.out x (MG d);clear a q d;have J:(k:Int)<(n:Int):=by omega
   obtain⟨r,s⟩:=qE (p x);go_wp2_with fail;refine (C _ o).mono ?_;rintro e w1 ⟨rfl,t⟩;rw[s];have m:Hid _:=o.out.trans (t.mono B);clear t
   cases r with
   | true =>
    have D:Hid _:=p5 h s G;clear s C;go_wp2;go_ret;rw[D.out];exact⟨rfl,m⟩
   | false =>
    have E:Hid (∀ j y,j<k+1->l[j]?=some y->p y=false):=λj y z H=>by
     by_cases e:j=k
     ·subst e;rw[h.out]at H
      cases H
      exact s
     ·exact G j y qo H
    clear s C;go_wp2
    go_roundw
    case rel=>exact⟨k+1,qo,by go_num,E,m⟩
    case measure=>simp[intOf];omega
  ·obtain rfl:k=n:=qo
   have D:Hid _:=n6 λj y z=>G.out j y (by rw[<-I.out];exact z)
   go_wp2;go_ret;rw[D.out];exact⟨rfl,o⟩
theorem KV (v)(l)(p:Rw->Bool)(b)(w)(hv:ey EI w v l)(hp:∀ x∈l,∀ V,Bw w V->Calls Tryz.prog 76 #[VI x,.pointer (some ⟨b,0,none⟩)] V λe w'=>e=.returned (.bool (p x))/\Bw V w') :
  Calls Tryz.prog 78 #[v,VF 76 b] w λe w'=>e=.returned (.bool (l.any p))/\Bw w w':=by
 have c:Hid (∀ V,w=V->Calls Tryz.prog 113 #[v,VF 76 b] V λe w'=>e=.returned (.int .i64 (uw p l))/\Bw w w'):=λV h=>by subst h;exact Ls v l p b w hv hp
 obtain⟨m,i,rfl,j,k⟩:=hv.open;obtain⟨r,f⟩:=qE (uw p l);rw[<-tC,f];rw[f]at c;obtain⟨n,g⟩:=qE l.length;rw[g]at c |-;clear k hv hp f j g;go_enter Tryz.func78,Tryz.ntmps78;go_wp2_with fail;refine (c _ rfl).mono ?_;rintro e o ⟨rfl,a⟩;have d:Hid _:=a;clear a c;go_wp2;go_ret;exact⟨rfl,d⟩
end
section
open ChangeShapes WideShapes ChangeAt RowKit Deep
namespace Fo
abbrev sa:ByteArray:=⟨#[97]⟩
abbrev sb:ByteArray:=⟨#[98]⟩
abbrev ea:eA:=(sa,1,1,1)
abbrev eb:eA:=(sb,2,1,1)
end Fo
theorem below_drewN {B:Nat}{w w':World}(h:Below B w w')(q):Below B w (w'.drewN q):=⟨h.os,h.tape,h.output,h.size,h.block⟩
end
section
open ChangeShapes WideShapes ChangeAt RowKit Deep It
theorem fY.EF {α:Type}(E:fY α){l:List α}{k j:Nat}{x x':α}{u:Value}(hk:l[k]?=some x)(hj:j<E.sz)(hc:E.cells x'=(E.cells x).set j u):(E.flat l).set (k*E.sz+j) u=E.flat (l.set k x'):=by
 have a:=(MN.1 hk).1;have c:=E.pT l k x a;have d:=E.pT l k x' a;have f:l.set k x=l:=by
  have:=(MN.1 hk).2;rw[<-this];exact List.set_getElem_self a
 rw[f]at c;have b:((E.flat l).take (k*E.sz)).length=k*E.sz:=by
  rw[M5,E.eh];exact OB (Og _ qo)
 have g:=E.len x;rw[<-d,hc];generalize (E.flat l).take (k*E.sz)=A at *;generalize (E.flat l).drop (k*E.sz+E.sz)=D at *;rw[<-c,Nq,Nq,List.set_append_right _ _ qo,b,Nat.add_sub_cancel_left,List.set_append_left _ _ qo]
theorem Row.cell {α:Type}{E:fY α}{w:World}{B:Nat}{e:TypeId}{g n cap:Nat}{ls:List α}{k j:Nat}{x x':α}{u:Value}(h:Row E w B e (.slice (some ⟨g,0,none⟩) n cap) ls)(hk:ls[k]?=some x)(hj:j<E.sz)(hc:E.cells x'=(E.cells x).set j u) :
  Row E (w.setCell ⟨g,k*E.sz+j,none⟩ u) B e (.slice (some ⟨g,0,none⟩) n cap) (ls.set k x'):=by
 rcases h with ⟨h,_⟩ | ⟨p,b,a,c,d,f,i,l,m,o⟩
 ·cases h
 ·simp only[Value.slice.injEq,Option.some.injEq,Addr.mk.injEq]at c
  obtain⟨⟨rfl,-,-⟩,rfl,rfl⟩:=c;refine .inr ⟨g,cap,a.setIfInBounds (k*E.sz+j) u,by rw[OC],d,?_,by rw[OC];exact i,l,by rw[Array.size_setIfInBounds];exact m,?_⟩
  ·simp[World.setCell,Array.getElem?_modify,f]
  ·rw[OC,Array.toList_setIfInBounds,List.take_set,o]
   exact E.EF hk hj hc
namespace Nf
structure Fk (p:Int × Int->Bool) (U R:List (Int × Int)) (i j:Nat):Prop where
 len:R.length = U.length
 front:R.take i = (U.take j).filter (λx=>!p x)
 back:∀ t,j<=t->R[t]? = U[t]?
 lt:i < j
theorem Fk.LX {p:Int × Int->Bool}{U R:List (Int × Int)}{i j:Nat}(h:Fk p U R i j)(hj:j<=U.length):((U.take j).filter (λx=>!p x)).length=i:=by
 rw[<-h.front,M5,h.len];have:=h.lt;omega
theorem Fk.first {p:Int × Int->Bool}{U:List (Int × Int)}{k:Nat}{x:Int × Int}(hx:U[k]?=some x)(hp:p x=true)(hb:∀ j y,j<k->U[j]?=some y->p y=false):Fk p U U k (k+1):=by
 refine⟨rfl,?_,λ_ _=>rfl,Nat.lt_succ_self _⟩;rw[NF,hx,Ov];have b:(U.take k).filter (λx=>!p x)=U.take k:=Om.2 λy c=>by
  obtain ⟨j,hj⟩:=M1.1 c;rw [List.getElem?_take] at hj;split at hj
  ·rename_i hlt
   rw[hb j y hlt hj];rfl
  ·cases hj
 rw[b];simp[hp]
theorem Fk.gone {p:Int × Int->Bool}{U R:List (Int × Int)}{i j:Nat}{x:Int × Int}(h:Fk p U R i j)(hx:U[j]?=some x)(hp:p x=true):Fk p U R i (j+1):=by
 refine⟨h.len,?_,λt a=>h.back t qo,by have:=h.lt;omega⟩;rw[NF,hx,Ov,<-h.front];simp[hp]
theorem Fk.kept {p:Int × Int->Bool}{U R:List (Int × Int)}{i j:Nat}{x:Int × Int}(h:Fk p U R i j)(hx:U[j]?=some x)(hp:p x=false):Fk p U (R.set i x) (i+1) (j+1):=by
 have g:=(qM hx);have a:=h.lt;have b:=h.len;refine⟨by rw[OC];exact b,?_,λt k=>?_,qo⟩
 ·have c:i<R.length:=qo
  have d:(R.set i x).take (i+1)=R.take i++[x]:=by
   rw[NF,Ny c,List.take_set,List.set_eq_of_length_le (by rw[M5];omega)];rfl
  have f:(U.take (j+1)).filter (λx=>!p x)=(U.take j).filter (λx=>!p x)++[x]:=by
   rw[NF,hx,Ov];simp[hp]
  rw[d,f,h.front]
 ·rw[Oj qo];exact h.back t qo
end Nf
theorem DN {B:Nat}{w w':World}(h:Below B w w'){g:Nat}(hg:B<=g)(cs):Below B w (w'.setRow g cs):=by
 refine⟨h.os,h.tape,h.output,by simpa [World.setRow]using h.size,λk b=>?_⟩;rw[<-h.block k b];have a:g≠k:=qo
 simp[World.setRow,Array.getElem?_modify,a]
theorem Ep (w)(g o n c)(ty:TypeId)(cur)(hn:0<n)(hg:w.1[g]?=some (.cells cur 57 (0,0)))(ho:o+n*2<=cur.size) :
  (Builtin.clear_ #[119] ty #[.slice (some ⟨g,o,none⟩) n c]).run Tryz.prog w=.ok (.tuple #[]) (w.setRow g (cur.toList.take o++List.replicate (n*2) (Value.int .i64 0)++cur.toList.drop (o+n*2)).toArray):=by
 have d:∀ w,(zeroValue 57).run Tryz.prog w=.ok (.agg #[.int .i64 0,.int .i64 0]) w:=λw=>Tryz.zeroValue57 w
 have b:(Builtin.zeroCells (Value.agg #[.int .i64 0,.int .i64 0]).cells n).toList=List.replicate (n*2) (Value.int .i64 0):=by
  simp[Builtin.zeroCells,Value.cells];apply List.ext_getElem
  ·simp
  ·intro i j k;have:i % 2=0\/i % 2=1:=qo
   rcases this with h | h <;> simp[h]
 have a:=run_storeCells_at (P:=Tryz.prog) g o 57 (List.replicate (n*2) (Value.int .i64 0)) 0 cur w hg (by simpa using ho) (by intro v f;rw[List.eq_of_mem_replicate f];rfl);simp only[Nat.add_zero,List.length_replicate]at a;obtain⟨m,rfl⟩:∃ m,n=m+1:=⟨n-1,qo⟩;simp[Builtin.clear_,run_underlying Tryz.underlying119,d,b,a]
theorem ID (v)(U)(p:Int × Int->Bool)(b B)(w)(hv:Row EH w B 57 v U)(hB:B<=w.1.size)(hlen:U.length<=1000)(hp:∀ x∈U,∀ V,Below B w V->Calls Tryz.prog 107 #[.agg #[.int .i64 x.1,.int .i64 x.2],.pointer (some ⟨b,0,none⟩)] V λe w'=>e=.returned (.bool (p x))/\Bw V w') :
  Calls Tryz.prog 108 #[v,VF 107 b] w λe w'=>∃ u,e=.returned u/\ey EH w' u (U.filter λx=>!p x)/\Below B w w':=by
 have HV:=hH hv;have HP:=hH hp;have HI:Hid (∀ V,w=V->Calls Tryz.prog 112 #[v,VF 107 b] V λe w'=>e=.returned (.int .i64 (uw p U))/\Bw w w'):=λV h=>by
  subst h;exact Lh v U p b w hv.at.wide λx hx V hb=>hp x hx V (hb.mono hB)
 obtain⟨ao,c,ah⟩:=hv.slice;obtain⟨n,hn⟩:=qE U.length;have X:=hH hn;rw[hn]at ah hlen;subst ah;obtain⟨r,hr⟩:=qE (uw p U);rw[hr]at HI;have HR:=hH hr;clear hv hp hn hr;go_enter Tryz.func108,Tryz.ntmps108;go_wp2_with fail;refine (HI _ rfl).mono ?_;rintro e w1 ⟨rfl,P⟩;have Y:=hH P;have z:=hH<|HV.out.up P;clear P HI
 by_cases hr1:r = -1
 ·subst hr1;have Z:∀ x∈U,p x=false:=by
   have h:=HR.out;unfold uw at h
   cases hf:U.findIdx? p with
   | none=>exact OI.1 hf
   | some k =>
    rw[hf]at h;have I:(k:Int) = -1:=h;omega
  have HF:=hH<|show ey EH w1 (.slice ao n c) (U.filter λx=>!p x) by
   rw[Om.2 λx hx=>by rw[Z x hx];rfl];exact z.at.wide
  clear Z;go_wp2;go_ret;exact⟨_,rfl,HF,Y.mono hB⟩
 ·obtain⟨k,x,aC,Q,ai,aj⟩:∃ (k:Nat) (x:Int × Int),r=k/\U[k]?=some x/\p x=true/\∀ j y,j<k->U[j]?=some y->p y=false:=by
   have h:=HR.out;unfold uw at h
   cases hf:U.findIdx? p with
   | none =>
    rw[hf]at h;exact absurd h.symm hr1
   | some k =>
    rw[hf]at h;rw[N4]at hf;obtain⟨hk,aD,aE⟩:=hf;refine⟨k,U[k],h.symm,MF hk,aD,λj y hj D=>?_⟩;have h1:=aE j hj;rw[MF qo]at D
    cases D
    simpa using h1
  subst aC;have aq:=hH<|Nf.Fk.first Q ai aj;have ar:k<n:=by rw[<-X.out];exact (qM Q)
  have tr:((k:Int) == -1)=false:=by
   apply MQ.2
   omega
  obtain⟨g,hg⟩:∃ g,ao=some ⟨g,0,none⟩:=by
   rcases z with ⟨h,_⟩ | ⟨g,H,a,h,_⟩
   ·simp only[Value.slice.injEq]at h;omega
   ·simp only[Value.slice.injEq]at h;exact⟨g,h.1⟩
  subst hg;have A:B<=g:=(z.lt g rfl).1;clear hr1 Q ai aj HR;go_wp2;go_loopw [5,6] (λiv jv wr=>∃ (i j:Nat) (R:List (Int × Int)),i<n/\j<=n/\iv=.int .i64 i/\jv=.int .i64 j/\Hid (Nf.Fk p U R i j)/\Hid (Row EH wr B 57 (.slice (some ⟨g,0,none⟩) n c) R)/\Hid (Below B w wr)) (λ_ jv _=>n-(intOf jv).toNat)
  case atStart=>exact⟨k,k+1,U,ar,qo,rfl,by go_num,aq,z,Y.mono hB⟩
  case round =>
   obtain⟨i,j,R,hi,hj,rfl,rfl,S,C,ak⟩:=hrel;have aa:=S.out.len.trans X;have aJ:=(C.lt g rfl).2;have au:B<=wr.1.size:=qo
   by_cases hlt:j<n
   ·obtain⟨y,D⟩:∃ y,U[j]?=some y:=⟨_,MF (by rw[X.out];exact hlt)⟩;have J:=(S.back j qn).trans D;have aG:(j:Int)<(n:Int):=qo
    have av:(i:Int)<(n:Int):=qo
    obtain⟨aN,aH,T,-,al⟩:=C.out.at.open;obtain⟨bs,aO,am,-,an,s⟩:=al j y J;simp only[Value.slice.injEq]at T;have ab:=T.1.trans am;simp only[Option.some.injEq,Addr.mk.injEq]at ab;obtain⟨rfl,rfl,-⟩:=ab;obtain⟨f,m⟩:=y;have c0:wr.cell? ⟨g,j*2,none⟩=some (.int .i64 f):=by have:=s 0 _ rfl;simpa [show EH.sz=2 from rfl]using this
    have c1:wr.cell? ⟨g,j*2+1,none⟩=some (.int .i64 m):=by have:=s 1 _ rfl;simpa [show EH.sz=2 from rfl]using this
    clear T am al an s;have HC:=HP.out (f,m) (MG D);obtain⟨q,hq⟩:=qE (p (f,m));obtain⟨W2,E⟩:=qF (wr.alloc (BH f m));have K:Bw wr W2:=by rw[E];exact qG _ _
    have L:=hH<|ak.out.trans (K.mono au);have aw:=hH<|C.out.up K;have ac:Hid _:=qC E;clear K;go_wp2_with fail;rw[<-E];clear E;refine (HC W2 L).mono ?_;rintro e t ⟨rfl,F⟩;rw[hq];have ad:=hH<|L.out.trans (F.mono (MS hB L.size));have M:=hH<|aw.out.up F;have ax:=qK F ac;clear F HC
    cases q with
    | true =>
     have N:=hH<|S.out.gone D hq;clear hq D J;go_wp2
     go_roundw
     case rel=>exact⟨i,j+1,R,hi,qo,rfl,by go_num,N,M,ad⟩
     case measure=>simp[intOf];omega
    | false =>
     have N:=hH<|S.out.kept D hq;have aK:=S.out.lt;obtain⟨o,ho⟩:∃ o,R[i]?=some o:=⟨_,MF qo⟩;obtain⟨⟨f0,f1⟩,-⟩:=cU ax;have ay:Hid (Row EH ((t.setCell ⟨g,i*2,none⟩ (.int .i64 f)).setCell ⟨g,i*2+1,none⟩ (.int .i64 m)) B 57 (.slice (some ⟨g,0,none⟩) n c) (R.set i (f,m))):=by
      have h1:=Row.cell (k:=i) (j:=0) (x:=o) (x':=(f,o.2)) (u:=.int .i64 f) M ho qd rfl;have I:=Row.cell (k:=i) (j:=1) (x:=(f,o.2)) (x':=(f,m)) (u:=.int .i64 m) h1 (by rw[Ny qo]) qd rfl;rw[List.set_set]at I;exact I
     obtain⟨a,d,s⟩:∃ a,t.1[g]?=some (.cells a 57 (0,0))/\n*2<=a.size:=by
      rcases M with ⟨h,_⟩ | ⟨g',H,a,h,_,I,h3,_,h5,_⟩
      ·cases h
      ·simp only[Value.slice.injEq,Option.some.injEq,Addr.mk.injEq]at h;obtain⟨⟨rfl,-,-⟩,-,rfl⟩:=h;refine⟨a,I,MS (Og 2 ?_) h5⟩;rw[<-aa];exact h3
     have d0:t.cell? ⟨g,i*2,none⟩=some (a[i*2]'qo):=by simp[World.cell?,d]
     have d1:t.cell? ⟨g,i*2+1,none⟩=some (a[i*2+1]'qo):=by simp[World.cell?,d]
     have e0:t.frozen? ⟨g,i*2,none⟩=false:=by simp[World.frozen?,d]
     have e1:t.frozen? ⟨g,i*2+1,none⟩=false:=by simp[World.frozen?,d]
     have az:Hid (Below B w ((t.setCell ⟨g,i*2,none⟩ (.int .i64 f)).setCell ⟨g,i*2+1,none⟩ (.int .i64 m))):=MP (MP ad.out (show B<=g from A) _) (show B<=g from A) _;clear hq D J ho;go_wp2
     go_roundw
     case rel=>exact⟨i+1,j+1,R.set i (f,m),qo,qo,by go_num,by go_num,N,ay,az⟩
     case measure=>simp[intOf];omega
   ·obtain rfl:j=n:=qo
    have af:=S.out.LX (by rw[X.out];exact MI _);have O:=S.out.front;rw[show U.take j=U from MY (by rw[X.out];exact MI _)]at af O;obtain⟨a,d,s,aI,aF,ap⟩:∃ a,wr.1[g]?=some (.cells a 57 (0,0))/\c*2<=a.size/\j<=c/\c<=maxLen/\a.toList.take (j*2)=EH.flat R:=by
     rcases C with ⟨h,_⟩ | ⟨g',H,a,h,_,I,h3,h4,h5,h6⟩
     ·cases h
     ·simp only[Value.slice.injEq,Option.some.injEq,Addr.mk.injEq]at h;obtain⟨⟨rfl,-,-⟩,-,rfl⟩:=h;rw[aa]at h3 h6;exact⟨a,I,h5,h3,h4,h6⟩
    have av:(i:Int)<=(j:Int):=qo
    have aL:(j:Int)<=(c:Int):=qo
    obtain⟨W,G⟩:=qF (wr.setRow g (a.toList.take (i*2)++List.replicate ((j-i)*2) (Value.int .i64 0)++a.toList.drop (i*2+(j-i)*2)).toArray);have aM:∀ ty,(Builtin.clear_ #[119] ty #[.slice (some ⟨g,i*2,none⟩) (j-i) (c-i)]).run Tryz.prog wr=.ok (.tuple #[]) W:=λty=>by
     rw[G];exact Ep wr g (i*2) (j-i) (c-i) ty a qo d qo
    have aA:=hH<|show Below B w W by
     rw[G];exact DN ak A _
    have HF:=hH<|show ey EH W (.slice (some ⟨g,0,none⟩) i c) (U.filter λx=>!p x) by
     rw[<-O];have aB:W.1[g]?=some (.cells (a.toList.take (i*2)++List.replicate ((j-i)*2) (Value.int .i64 0)++a.toList.drop (i*2+(j-i)*2)).toArray 57 (0,0)):=by
      rw[G];exact O1 wr g _ _ _ _ d
     have ag:Row EH W B 57 (.slice (some ⟨g,0,none⟩) (R.take i).length c) (R.take i):=by
      refine .inr ⟨g,c,_,rfl,A,aB,by rw[M5];omega,aF,?_,?_⟩
      ·simp;have:EH.sz=2:=rfl;rw[this];omega
      ·have e1:(R.take i).length=i:=by rw[M5];omega
       have e2:EH.sz=2:=rfl;rw[e1,e2,List.toList_toArray,Nq,OU (by rw[M5,On];omega),List.take_take,show min (i*2) (i*2)=i*2 by omega];have e3:a.toList.take (i*2)=(a.toList.take (j*2)).take (i*2):=by rw[List.take_take,show min (i*2) (j*2)=i*2 by omega]
       rw[e3,ap];have e4:EH.flat R=EH.flat (R.take i)++EH.flat (R.drop i):=by rw[<-EH.fo,Nj]
       rw[e4,OU (by rw[EH.eh,e1,e2];exact MI _)];refine MY ?_;rw[EH.eh,e1,e2];exact qn
     have:=ag.at.wide
     rwa [show (R.take i).length=i by rw[M5];omega]at this
    clear O af ap G;go_wp2;go_ret;exact⟨_,rfl,HF,aA⟩
end
end Go.Proofs.YtiifhfmekbhlnaaGreat
