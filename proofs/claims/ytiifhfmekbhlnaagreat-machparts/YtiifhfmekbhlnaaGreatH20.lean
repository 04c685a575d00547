/- Part 20. -/
import Derived.Test.YtiifhfmekbhlnaaGreatH19
set_option maxHeartbeats 8000000
set_option maxRecDepth 100000
namespace Go.Proofs.YtiifhfmekbhlnaaGreat
open It
namespace Sp
theorem vY (q:En->Bool):∀ (L:List cL) (k:Nat) (x y:cL),L[k]?=some x->(dk (L.set k y)).countP q+x.cE.countP q=(dk L).countP q+y.cE.countP q
 | [],k,x,y,h=>by simp at h
 | z::L,0,x,y,h=>by
  simp at h;subst h;simp only[dk,List.set_cons_zero,List.flatMap_cons,List.countP_append];omega
 | z::L,k+1,x,y,h=>by
  have ih:=vY q L k x y (by simpa using h);unfold dk at ih |-;rw[List.set_cons_succ,N0,N0,NP,NP];omega
theorem G7 (q:En->Bool):∀ (l:List En) (j:Nat) (e:En),l[j]?=some e->(l.eraseIdx j).countP q+(if q e=true then 1 else 0)=l.countP q
 | [],j,e,h=>by simp at h
 | z::l,0,e,h=>by
  simp at h;subst h;rw[List.eraseIdx_cons_zero,N5]
 | z::l,j+1,e,h=>by
  have ih:=G7 q l j e (by simpa using h);rw[List.eraseIdx_cons_succ,N5,N5];omega
theorem rY {l:List En}{j:Nat}{e:En}(h:l[j]?=some e):∀ x∈l,x∈l.eraseIdx j\/x=e:=by
 intro x c;obtain⟨i,a⟩:=M1.1 c
 by_cases hij:i=j
 ·subst hij;rw[h]at a;exact .inr (Option.some.inj a).symm
 ·left;rcases Nat.lt_or_gt_of_ne hij with b | b
  ·exact MG (i:=i) (by rw[List.getElem?_eraseIdx,MC b];exact a)
  ·refine MG (i:=i-1) ?_;rw[List.getElem?_eraseIdx,ME qo,show i-1+1=i by omega];exact a
theorem qz {L:List cL}(hr:It.right L=true)(ho:Ae L)(ha:∀ c,eu L c=true->∃ d,kj L d 0 c):cZ L=true :=
 ei.2 ⟨hr,zj ho,CY hr ho,(mQ (yo hr (zj ho) (CY hr ho)) (ew hr).2).2 ha⟩
theorem ik {L:List cL}(hs:cZ L=true){c:Nat}(hc:eu L c=true):∃ d,kj L d 0 c:=by
 obtain⟨a,_,_,b⟩:=ei.1 hs;exact (mQ (l4 hs) (ew a).2).1 b c hc
theorem dZ {L:List cL}{c:Nat}:eu L c=true ↔ ∃ x,L[c]?=some x/\x.kind=2:=by
 unfold eu
 cases h:L[c]? with
 | none=>simp
 | some x=>simp
theorem fU {L:List cL}{p c:Nat}:Child L p c ↔ (∃ x,L[p]?=some x/\∃ e∈x.cE,e.2.2.1=(c:Int))/\eu L c=true:=by
 unfold Child;refine and_congr ⟨?_,?_⟩ Iff.rfl
 ·rintro ⟨e,a,b⟩;obtain⟨x,d,f⟩:=o9.1 a;exact⟨x,d,e,f,by simpa [ny]using b⟩
 ·rintro ⟨x,d,e,a,b⟩;exact⟨e,o9.2 ⟨x,d,a⟩,by simp[ny,b]⟩
theorem mb {L L':List cL}(h:∀ p c,Child L p c->Child L' p c):∀ (d a c:Nat),kj L d a c->kj L' d a c
 | 0,_,_,ha=>ha
 | d+1,a,c,ha=>by
  obtain⟨p,h1,h2⟩:=ha;exact⟨p,mb h d a p h1,h p c h2⟩
theorem tJ {L:List cL}{kc kt:Nat}{xc xt y z:cL}(hne:kc≠kt)(hc:L[kc]?=some xc)(ht:L[kt]?=some xt)(i):((L.set kc y).set kt z)[i]?=if i=kt then some z else if i=kc then some y else L[i]?:=by
 have a:=(qM hc);have b:=(qM ht);rw[Nz]
 by_cases h1:i=kt
 ·subst h1;simp[b]
 ·rw[ME (λh=>h1 h.symm),ME h1,Nz]
  by_cases h2:i=kc
  ·subst h2;simp[a]
  ·rw[ME (λh=>h2 h.symm),ME h2]
theorem nM {L L':List cL} {a b:Int} (h:names L a b=true) (hK:∀ (k:Nat) x,L[k]?=some x->a=k->x.kind≠0->∃ x',L'[k]?=some x'/\x'.gen=x.gen/\x'.kind=x.kind):names L' a b=true:=by
 obtain⟨i,x,f,c,g,d⟩:=dY.1 h;obtain⟨x',j,l,m⟩:=hK i x f c d;exact dY.2 ⟨i,x',j,c,by rw[l];exact g,by rw[m];exact d⟩
theorem mL {L:List cL}{p:Nat}{x:cL}{e:En}(h:L[p]?=some x)(he:e∈x.cE):e∈dk L:=Ou.2 ⟨x,MG h,he⟩
theorem vm {L:List cL}{kc kt:Nat}{xc xt:cL}{es:List eA}{nx st n:Int}(hs:cZ L=true)(hc:L[kc]?=some xc)(hk:xc.kind=2)(ht:L[kt]?=some xt)(hkt:xt.kind=1)(hst:0<=st/\st<=1099511627776)(hR:Fo.fE es nx)(hlen:es.length<=1048576) (hlk:0<=xt.cH+n/\xt.cH+n<=64) (hcount:∀ i:Int,(es.countP (nJ i):Int)=xc.cE.countP (nJ i)+(if i=kt then n else 0))
  (hmem:∀ e∈es,e∈xc.cE\/e.2.2=((kt:Int),xt.gen)) (hsup:∀ e∈xc.cE,e∈es\/e.2.2.1=kt):cZ ((L.set kc (filled xc es nx st)).set kt (linked xt n st))=true:=by
 have w:=(ei.1 hs).1;have G:=kA hs;have y:kc≠kt:=by
  rintro rfl;rw[hc]at ht
  cases ht
  omega
 have r:=(It.cG.1 w).2.2;obtain⟨s,o⟩:=qF ((L.set kc (filled xc es nx st)).set kt (linked xt n st));have H:∀ i,s[i]?=if i=kt then some (linked xt n st) else if i=kc then some (filled xc es nx st) else L[i]?:=by
  rw[o];exact tJ y hc ht
 have z:(L.set kc (filled xc es nx st))[kt]?=some xt:=by rw[Oj y];exact ht
 have U:It.right s=true:=by
  rw[o];have V:=gA w hc (fQ (r xc (MG hc)) hk hst hlen (nx:=nx)) rfl;exact gA V z (pg (r xt (MG ht)) hkt hst hlk) rfl
 have W:∀ i:Int,(rh s i:Int)=rh L i+(if i=kt then n else 0):=by
  intro i;have X:=vY (nJ i) L kc xc (filled xc es nx st) hc;have Y:=vY (nJ i) (L.set kc (filled xc es nx st)) kt xt (linked xt n st) z;have c3:=hcount i;have m:(filled xc es nx st).cE=es:=rfl;have j:(linked xt n st).cE=xt.cE:=rfl;rw[m]at X;rw[j]at Y;rw[o];unfold rh;omega
 rw[<-o];have l:∀ (k:Nat) x,L[k]?=some x->∃ q,s[k]?=some q/\q.gen=x.gen/\q.kind=x.kind:=by
  intro k x g;rw[H]
  by_cases m:k=kt
  ·subst m;rw[ht]at g
   cases g
   exact⟨_,MC rfl,rfl,rfl⟩
  ·rw[ME m]
   by_cases j:k=kc
   ·subst j;rw[hc]at g
    cases g
    exact⟨_,MC rfl,rfl,rfl⟩
   ·rw[ME j];exact⟨x,g,rfl,rfl⟩
 have t:∀ a b,names L a b=true->names s a b=true:=λa b h=>nM h λk x g _ _=>l k x g
 have N:names L kt xt.gen=true:=dY.2 ⟨kt,xt,ht,rfl,rfl,by omega⟩;have A:∀ e∈dk L,names L e.2.2.1 e.2.2.2=true:=kV w G;have O:kt≠0:=by
  rintro rfl;have:=kH w ht;omega
 refine qz U (λi q f=>?_) λc F=>?_
 ·rw[H]at f;have B:=W (i:Int);split at f
  ·rename_i m
   cases f
   subst m;obtain⟨_,_,J,K,M⟩:=G i xt ht;rw[MC rfl]at B;refine⟨λh=>?_,λh=>?_,λh=>?_,λh=>?_,λh=>absurd h O⟩
   ·have I:xt.kind=2:=h;omega
   ·have I:xt.kind=2:=h;omega
   ·have T:=J hkt;show (rh s i:Int)=xt.cH+n;omega
   ·have I:xt.kind=2:=h;omega
  ·rename_i m
   rw[ME (by omega)]at B;split at f
   ·rename_i j
    cases f
    subst j;obtain⟨_,_,J,K,M⟩:=G i xc hc;refine⟨λ_=>⟨hR,rfl⟩,λ_ e u=>?_,λh=>?_,λh R=>?_,λh=>?_⟩
    ·rcases hmem e u with h | h
     ·exact t _ _ (A e (mL hc h))
     ·rw[h];exact t _ _ N
    ·have I:xc.kind=1:=h;omega
    ·have:=K hk R;omega
    ·have:=M h;omega
   ·obtain⟨Z,o2,J,K,M⟩:=G i q f;refine⟨Z,λh e u=>t _ _ (o2 h e u),λh=>?_,λh R=>?_,λh=>?_⟩
    ·have:=J h;omega
    ·have:=K h R;omega
    ·have:=M h;omega
 ·have P:∀ c,eu s c=true->eu L c=true:=λc F=>by
   obtain⟨q,f,C⟩:=dZ.1 F;rw[H]at f;split at f
   ·cases f
    have I:xt.kind=2:=C;omega
   ·split at f
    ·rename_i j
     subst j;exact dZ.2 ⟨xc,hc,hk⟩
    ·exact dZ.2 ⟨q,f,C⟩
  have Q:∀ c,eu L c=true->eu s c=true:=λc F=>by
   obtain⟨x,g,D⟩:=dZ.1 F;obtain⟨q,w,_,T⟩:=l c x g;exact dZ.2 ⟨q,w,by rw[T];exact D⟩
  obtain⟨d,ha⟩:=ik hs (P c F);refine⟨d,mb (λp c S=>?_) d 0 c ha⟩;obtain⟨⟨x,g,e,u,v⟩,E⟩:=fU.1 S;refine fU.2 ⟨?_,Q c E⟩;rw[H]
  by_cases m:p=kt
  ·subst m;rw[ht]at g
   cases g
   exact⟨_,MC rfl,e,u,v⟩
  ·rw[ME m]
   by_cases j:p=kc
   ·subst j;rw[hc]at g
    cases g
    rcases hsup e u with h | h
    ·exact⟨_,MC rfl,e,h,v⟩
    ·exfalso;obtain⟨x,g,D⟩:=dZ.1 E;have:c=kt:=by omega
     subst this;rw[ht]at g
     cases g
     omega
   ·rw[ME j];exact⟨x,g,e,u,v⟩
theorem FD {L : List cL}{kc kt : Nat}{xc xt : cL}{es : List eA}{st : Int}(hs : cZ L=true)(hc : L[kc]?=some xc)(hk : xc.kind=2)(ht : L[kt]?=some xt)(hkt : xt.kind=2)(hte : xt.cE=[])(h0 : kt≠0)(hne : kc≠kt)(hst : 0 ≤ st ∧ st ≤ 1099511627776)(hR:Fo.fE es xc.next)(hlen:es.length<=1048576)(hcount:∀ i:Int,(es.countP (nJ i):Int)=xc.cE.countP (nJ i)+(if i=kt then -1 else 0))(hmem:∀ e∈es,e∈xc.cE)(hsup:∀ e∈xc.cE,e∈es\/e.2.2.1=kt):cZ ((L.set kc (filled xc es xc.next st)).set kt (gone xt.gen))=true:=by
  have v:=(ei.1 hs).1;have G:=kA hs;have q:=(It.cG.1 v).2.2;obtain⟨m,n⟩:=qF ((L.set kc (filled xc es xc.next st)).set kt (gone xt.gen));have H:∀ i,m[i]?=if i=kt then some (gone xt.gen) else if i=kc then some (filled xc es xc.next st) else L[i]?:=by
    rw[n];exact tJ hne hc ht
  have t:(L.set kc (filled xc es xc.next st))[kt]?=some xt:=by rw[Oj hne];exact ht
  have w:=(MN.1 t).1;have I:=ew v;have W:It.right m=true:=by
    rw[n];have X:=gA v hc (fQ (q xc (MG hc)) hk hst hlen (nx:=xc.next)) rfl;have Y:=rv (no:=kt) (x:=gone xt.gen) X (Nat.le_of_lt w) (by rw[OC]at w;omega) qo (zI (ud (q xt (MG ht))))
    rwa [tt t]at Y
  have U:∀ i:Int,(rh m i:Int)=rh L i+(if i=kt then -1 else 0):=by
    intro i;have Z:=vY (nJ i) L kc xc (filled xc es xc.next st) hc;have c2:=vY (nJ i) (L.set kc (filled xc es xc.next st)) kt xt (gone xt.gen) t;have c3:=hcount i;have r:(filled xc es xc.next st).cE=es:=rfl;have j:(gone xt.gen).cE=[]:=rfl;rw[r]at Z;rw[j,hte]at c2;rw[n];unfold rh;omega
  rw[<-n];have l:∀ (k:Nat) x,L[k]?=some x->k≠kt->∃ o,m[k]?=some o/\o.gen=x.gen/\o.kind=x.kind:=by
    intro k x b r;rw[H,ME r]
    by_cases j:k=kc
    · subst j
      rw[hc]at b
      cases b
      exact⟨_,MC rfl,rfl,rfl⟩
    · rw[ME j]
      exact⟨x,b,rfl,rfl⟩
  have hz:(rh m (kt:Int):Int)=0:=by
    have:=(G kt xt ht).2.2.2.1 hkt qo;have y:=U (kt:Int);rw[MC rfl]at y;omega
  have z:=kV v G;have A:∀ e∈dk m,e∈dk L->names m e.2.2.1 e.2.2.2=true:=λe S g=>nM (z e g) λk x b T _=>l k x b (by
    rintro rfl;have:rh m (k:Int)=0:=qo
    unfold rh at this;exact Ph.1 this e S (by simp[nJ,T]))
  refine qz W (λi o a=>?_) λc F=>?_
  · have s := a
    rw[H]at a;have J:=U (i:Int);split at a
    · rename_i r
      cases a
      subst r;refine⟨λh=>?_,λh=>?_,λh=>?_,λh=>?_,λh=>absurd h h0⟩
      all_goals
        first
          | (have y : (0 : Int)=2 := h
             omega)
          | (have y : (0 : Int)=1 := h
             omega)
    · rename_i r
      rw[ME qo]at J;split at a
      · rename_i j
        cases a
        subst j;obtain⟨_,_,V,O,P⟩:=G i xc hc;refine⟨λ_=>⟨hR,rfl⟩,λ_ e g=>A e (mL s g) (mL hc (hmem e g)),λh=>?_,λh h0=>?_,λh=>?_⟩
        · have y : xc.kind=1 := h
          omega
        · have := O hk h0
          omega
        · have := P h
          omega
      · obtain⟨o1,o2,V,O,P⟩ := G i o a
        refine⟨o1,λh e g=>A e (mL s g) (mL a g),λh=>?_,λh h0=>?_,λh=>?_⟩
        · have := V h
          omega
        · have := O h h0
          omega
        · have := P h
          omega
  · have K : ∀ c,eu m c=true → eu L c=true ∧ c≠kt := λc F => by
      obtain⟨o,a,C⟩:=dZ.1 F;rw[H]at a;split at a
      · cases a
        have y:(0:Int)=2:=C;omega
      · rename_i r
        refine⟨?_,r⟩;split at a
        · rename_i j
          subst j;exact dZ.2 ⟨xc,hc,hk⟩
        · exact dZ.2 ⟨o,a,C⟩
    have M:∀ c,eu L c=true->c≠kt->eu m c=true:=λc F f=>by
      obtain⟨x,b,Q⟩:=dZ.1 F;obtain⟨o,v,_,h3⟩:=l c x b f;exact dZ.2 ⟨o,v,by rw[h3];exact Q⟩
    have N:∀ (d c:Nat),kj L d 0 c->c≠kt->kj m d 0 c:=by
      intro d
      induction d with
      | zero=>exact λc D _=>D
      | succ d ih =>
        intro c D f;obtain⟨p,hp,R⟩:=D;obtain⟨⟨x,b,e,g,E⟩,u⟩:=fU.1 R;have B:p≠kt:=by
          rintro rfl;rw[ht]at b
          cases b
          rw[hte]at g
          cases g
        refine⟨p,ih p hp B,fU.2 ⟨?_,M c u f⟩⟩;rw[H,ME B]
        by_cases j:p=kc
        · subst j
          rw[hc]at b
          cases b
          rcases hsup e g with h | h
          · exact⟨_,MC rfl,e,h,E⟩
          · exact absurd (show c=kt by omega) f
        · rw[ME j]
          exact⟨x,b,e,g,E⟩
    obtain⟨u,f⟩:=K c F;obtain⟨d,D⟩:=ik hs u;exact⟨d,N d c D f⟩
theorem Gy {L:List cL}{kc kd kt:Nat}{xc x1:cL}{es es2:List eA}{nx st:Int}{e2:eA}(hs:cZ L=true)(hc:L[kc]?=some xc)(hk:xc.kind=2)(hd1:(L.set kc (filled xc es xc.next st))[kd]?=some x1)(hk1:x1.kind=2)(hst:0<=st/\st<=1099511627776)(hR:Fo.fE es xc.next)(hlen:es.length<=1048576)(hR2:Fo.fE es2 nx)(hlen2:es2.length<=1048576)(he2:es2=x1.cE++[e2])(hto:e2.2.2.1=kt)(hnt:names L e2.2.2.1 e2.2.2.2=true)(hcount:∀ i:Int,(es.countP (nJ i):Int)=xc.cE.countP (nJ i)+(if i=kt then -1 else 0))(hmem:∀ e∈es,e∈xc.cE)(hsup:∀ e∈xc.cE,e∈es\/e.2.2.1=kt)(hin:eu L kt=true->¬ ∃ d,kj L d kt kd):cZ ((L.set kc (filled xc es xc.next st)).set kd (filled x1 es2 nx st))=true:=by
 have I:=(ei.1 hs).1;have U:=kA hs;have D:=l4 hs;have J:=(It.cG.1 I).2.2;have V:=(qM hc);have z:=(qM hd1);obtain⟨G,u⟩:=qF (L.set kc (filled xc es xc.next st));have r1:It.right G=true:=by
  rw[u];exact gA I hc (fQ (J xc (MG hc)) hk hst hlen (nx:=xc.next)) rfl
 have K:∀ i,G[i]?=if i=kc then some (filled xc es xc.next st) else L[i]?:=by
  intro i;rw[u,Nz]
  by_cases h:i=kc
  ·subst h;simp[V]
  ·rw[ME (λe=>h e.symm),ME h]
 rw[<-u]at hd1 z |-;obtain⟨o,v⟩:=qF (G.set kd (filled x1 es2 nx st));have S:∀ i,o[i]?=if i=kd then some (filled x1 es2 nx st) else G[i]?:=by
  intro i;rw[v,Nz]
  by_cases h:i=kd
  ·subst h;simp[z]
  ·rw[ME (λe=>h e.symm),ME h]
 have hr:It.right o=true:=by
  rw[v];exact gA r1 hd1 (fQ ((It.cG.1 r1).2.2 x1 (MG hd1)) hk1 hst hlen2 (nx:=nx)) rfl
 have W:∀ i:Int,rh o i=rh L i:=by
  intro i;have c1:=vY (nJ i) L kc xc (filled xc es xc.next st) hc;have X:=vY (nJ i) G kd x1 (filled x1 es2 nx st) hd1;have c3:=hcount i;have q:(filled xc es xc.next st).cE=es:=rfl;have Y:(filled x1 es2 nx st).cE=x1.cE++[e2]:=he2;rw[q,<-u]at c1;rw[Y,NP,N5,List.countP_nil]at X;have c4:(if nJ i e2=true then 1 else 0:Nat)=if i=kt then 1 else 0:=by
   by_cases h:i=kt
   ·rw[MC h,MC (by simp[nJ,hto,h])]
   ·rw[ME h,ME (by simp[nJ,hto];omega)]
  rw[c4]at X;rw[v];unfold rh;split at X <;> split at c3 <;> omega
 rw[<-v]
 -- fp was there,with its folder's entries
 have r:∀ (k:Nat) x,L[k]?=some x->∃ f,o[k]?=some f/\f.gen=x.gen/\f.kind=x.kind/\f.cH=x.cH/\∀ e∈x.cE,e∈f.cE\/e.2.2.1=kt:=by
  intro k x j;have T:∃ y,G[k]?=some y/\y.gen=x.gen/\y.kind=x.kind/\y.cH=x.cH/\∀ e∈x.cE,e∈y.cE\/e.2.2.1=kt:=by
   rw[K]
   by_cases q:k=kc
   ·subst q;rw[hc]at j
    cases j
    exact⟨_,MC rfl,rfl,rfl,rfl,hsup⟩
   ·rw[ME q];exact⟨x,j,rfl,rfl,rfl,λe n=>.inl n⟩
  obtain⟨y,w,H,s,B,C⟩:=T;rw[S]
  by_cases q:k=kd
  ·subst q;rw[hd1]at w
   cases w
   refine⟨_,MC rfl,H,s,B,λe n=>?_⟩;rcases C e n with h | h
   ·left;show e∈es2;rw[he2];exact Oh _ h
   ·exact .inr h
  ·rw[ME q];exact⟨y,w,H,s,B,C⟩
 have A:∀ (k:Nat) f,o[k]?=some f->∃ x,L[k]?=some x/\f.gen=x.gen/\f.kind=x.kind/\f.cH=x.cH/\(fold f)/\∀ e∈f.cE,e∈x.cE\/e.2.2=e2.2.2:=by
  have T:∀ (k:Nat) y,G[k]?=some y->∃ x,L[k]?=some x/\y.gen=x.gen/\y.kind=x.kind/\y.cH=x.cH/\fold y/\∀ e∈y.cE,e∈x.cE:=by
   intro k y w;rw[K]at w;split at w
   ·rename_i q
    subst q
    cases w
    exact⟨xc,hc,rfl,rfl,rfl,λ_=>⟨hR,rfl⟩,hmem⟩
   ·exact⟨y,w,rfl,rfl,rfl,(U k y w).1,λe n=>n⟩
  intro k f l;rw[S]at l;split at l
  ·rename_i q
   subst q
   cases l
   obtain⟨x,j,H,s,B,_,C⟩:=T k x1 hd1;refine⟨x,j,H,s,B,λ_=>⟨hR2,rfl⟩,λe n=>?_⟩;have Z:e∈x1.cE++[e2]:=by rw[<-he2];exact n
   rcases Na.1 Z with h | h
   ·exact .inl (C e h)
   ·exact .inr (by rw[NG.1 h])
  ·obtain⟨x,j,H,s,B,C,y5⟩:=T k f l;exact⟨x,j,H,s,B,C,λe n=>.inl (y5 e n)⟩
 have M:∀ e∈dk L,names L e.2.2.1 e.2.2.2=true:=kV I U;have N:∀ a b,names L a b=true->names o a b=true:=λa b h=>nM h λk x j _ _=>by
  obtain⟨f,a1,a2,a3,_⟩:=r k x j;exact⟨f,a1,a2,a3⟩
 refine qz hr (λi f l=>?_) λc R=>?_
 ·obtain⟨x,j,H,s,B,C,y5⟩:=A i f l;obtain⟨o1,o2,n1,n2,n3⟩:=U i x j;refine⟨C,λh e n=>?_,λh=>?_,λh h0=>?_,λh=>?_⟩
  ·rcases y5 e n with h | h
   ·exact N _ _ (M e (mL j h))
   ·rw[h];exact N _ _ hnt
  ·rw[W,n1 (by rw[<-s];exact h),B]
  ·rw[W];exact n2 (by rw[<-s];exact h) h0
  ·rw[W];exact n3 h
 ·have O:∀ c,eu o c=true->eu L c=true:=λc R=>by
   obtain⟨f,l,af⟩:=dZ.1 R;obtain⟨x,j,_,s,_⟩:=A c f l;exact dZ.2 ⟨x,j,by rw[<-s];exact af⟩
  have P:∀ c,eu L c=true->eu o c=true:=λc R=>by
   obtain⟨x,j,ag⟩:=dZ.1 R;obtain⟨f,I,_,h3,_⟩:=r c x j;exact dZ.2 ⟨f,I,by rw[h3];exact ag⟩
  have E:∀ p c,Child L p c->c≠kt->Child o p c:=λp c g F=>by
   obtain⟨⟨x,j,e,n,ah⟩,ai⟩:=fU.1 g;obtain⟨f,g1,_,_,_,g5⟩:=r p x j;rcases g5 e n with h | h
   ·exact fU.2 ⟨⟨f,g1,e,h,ah⟩,P c ai⟩
   ·exact absurd (show c=kt by omega) F
  obtain⟨d,t⟩:=ik hs (O c R)
  cases hdt:eu L kt with
  | false =>
   refine⟨d,mb (λp c g=>E p c g ?_) d 0 c t⟩;rintro rfl;rw[g.2]at hdt
   cases hdt
  | true =>
   have aa:=hin hdt;have k1:∀ (d c:Nat),kj L d 0 c->(¬ ∃ m,kj L m kt c)->kj o d 0 c:=by
    intro d
    induction d with
    | zero=>exact λc t _=>t
    | succ d ih =>
     intro c t Q;obtain⟨p,hp,g⟩:=t;refine⟨p,ih p hp λ⟨m,hm⟩=>Q ⟨m+1,p,hm,g⟩,E p c g ?_⟩;rintro rfl;exact Q ⟨0,rfl⟩
   have ab:=O kd (dZ.2 ⟨filled x1 es2 nx st,by rw[S,MC rfl],hk1⟩);obtain⟨m,hm⟩:=ik hs ab;have ac:=k1 m kd hm aa;have F:=fU.2 ⟨⟨filled x1 es2 nx st,by rw[S,MC rfl],e2,by show e2∈es2;rw[he2];simp,hto⟩,P kt hdt⟩;obtain⟨mt,aj⟩:=ik hs hdt;have k2:∀ (d c:Nat),kj L d kt c->∃ d',kj o d' 0 c:=by
    intro d
    induction d with
    | zero =>
     intro c t;have e:=t;subst e;exact⟨m+1,kd,ac,F⟩
    | succ d ih =>
     intro c t;have ad:=t;obtain⟨p,hp,g⟩:=t;obtain⟨d',ak⟩:=ih p hp;refine⟨d'+1,p,ak,E p c g ?_⟩;rintro rfl;have:=rN D aj ad;omega
   by_cases hb:∃ m,kj L m kt c
   ·obtain⟨m',al⟩:=hb;exact k2 m' c al
   ·exact⟨d,k1 d c t hb⟩
theorem H9 {L:List cL}{kc nn:Nat}{xc:cL}{es:List eA}{nx st g kind:Int}{e2:eA}(hs:cZ L=true)(hc:L[kc]?=some xc)(hk:xc.kind=2)(hkind:kind=1\/kind=2)(hnn:(∃ x0,L[nn]?=some x0/\x0.kind=0)\/nn=L.length)(hn0:1<=nn)(hr1:It.right (put L nn (fresh g kind st))=true)(hst:0<=st/\st<=1099511627776)(hR:Fo.fE es nx) (hlen:es.length<=1048576) (he:es=xc.cE++[e2]) (hto:e2.2.2=((nn:Int),g)) :
  cZ ((put L nn (fresh g kind st)).set kc (filled xc es nx st))=true:=by
 have Q:=(ei.1 hs).1;have R:=kA hs;have S:nn<=L.length:=by
  rcases hnn with⟨x0,j,_⟩ | h
  ·exact Nat.le_of_lt (qM j)
  ·omega
 have E:kc≠nn:=by
  rintro rfl;rcases hnn with⟨x0,j,O⟩ | h
  ·rw[hc]at j
   cases j
   omega
  ·have:=(qM hc);omega
 have F:=vq (x:=fresh g kind st) S;have w:(put L nn (fresh g kind st))[kc]?=some xc:=by rw[F,ME E];exact hc
 have T:=(qM w);obtain⟨z,A⟩:=qF ((put L nn (fresh g kind st)).set kc (filled xc es nx st));have G:∀ i,z[i]?=if i=kc then some (filled xc es nx st) else if i=nn then some (fresh g kind st) else L[i]?:=by
  intro i;rw[A,Nz]
  by_cases h:i=kc
  ·subst h;simp[T]
  ·rw[ME (λe=>h e.symm),ME h];exact F i
 have hr:It.right z=true:=by
  rw[A];exact gA hr1 w (fQ ((It.cG.1 hr1).2.2 xc (MG w)) hk hst hlen (nx:=nx)) rfl
 have n:∀ x,L[nn]?=some x->x.kind=0:=by
  intro x s;rcases hnn with⟨x0,j,O⟩ | h
  ·rw[s]at j
   cases j
   exact O
  ·rw[h]at s;simp at s
 have B:∀ e∈dk L,names L e.2.2.1 e.2.2.2=true:=kV Q R;have hz:rh L (nn:Int)=0:=by
  unfold rh;refine Ph.2 λe f hq=>?_
  obtain⟨i,x,s,ad,_,v⟩:=dY.1 (B e f);have ac:e.2.2.1=(nn:Int):=by simpa [nJ]using hq
  have:i=nn:=by omega
  subst this;exact v (n x s)
 have H:∀ q,(dk (put L nn (fresh g kind st))).countP q=(dk L).countP q:=by
  intro q;unfold put;split
  ·rename_i hlt
   have j:L[nn]?=some L[nn]:=MF hlt;have c1:=vY q L nn _ (fresh g kind st) j;have e0:L[nn].cE=[]:=by
    cases hl:L[nn].cE with
    | nil=>rfl
    | cons e r =>
     have h2:=nt Q j (e:=e) (by rw[hl];simp);have h3:=n _ j;omega
   have t:(fresh g kind st).cE=[]:=rfl;rw[e0,t]at c1;omega
  ·have t:(fresh g kind st).cE=[]:=rfl;simp[dk,t]
 have hn:∀ i:Int,rh z i=rh L i+(if i=nn then 1 else 0):=by
  intro i;have c2:=vY (nJ i) (put L nn (fresh g kind st)) kc xc (filled xc es nx st) w;have U:(filled xc es nx st).cE=xc.cE++[e2]:=he;rw[U,NP,N5,List.countP_nil,H]at c2;have c4:(if nJ i e2=true then 1 else 0:Nat)=if i=nn then 1 else 0:=by
   by_cases h:i=nn
   ·rw[MC h,MC (by simp[nJ,hto,h])]
   ·rw[ME h,ME (by simp[nJ,hto];omega)]
  rw[c4]at c2;rw[A];unfold rh;omega
 rw[<-A];have o:∀ (k:Nat) x,L[k]?=some x->x.kind≠0->∃ u,z[k]?=some u/\u.gen=x.gen/\u.kind=x.kind/\∀ e∈x.cE,e∈u.cE:=by
  intro k x s v;rw[G]
  by_cases t:k=kc
  ·subst t;rw[hc]at s
   cases s
   refine⟨_,MC rfl,rfl,rfl,λe f=>?_⟩;show e∈es;rw[he];exact Oh _ f
  ·rw[ME t,ME (by rintro rfl;exact v (n x s))];exact⟨x,s,rfl,rfl,λe h=>h⟩
 have I:∀ a b,names L a b=true->names z a b=true:=λa b h=>nM h λk x s _ v=>by
  obtain⟨u,a1,a2,a3,_⟩:=o k x s v;exact⟨u,a1,a2,a3⟩
 have J:z[nn]?=some (fresh g kind st):=by rw[G,ME (λe=>E e.symm),MC rfl]
 have K:=dY.2 ⟨nn,_,J,rfl,rfl,by show kind≠0;rcases hkind with h | h <;> rw[h] <;> decide⟩;refine qz hr (λi u l=>?_) λc hd=>?_
 ·rw[G]at l;have C:=hn (i:Int);split at l
  ·rename_i t
   cases l
   subst t;rw[ME qo]at C;obtain⟨_,_,n1,W,X⟩:=R i xc hc;refine⟨λ_=>⟨hR,rfl⟩,λ_ e f=>?_,λh=>?_,λh P=>?_,λh=>?_⟩
   ·have M:e∈xc.cE++[e2]:=by rw[<-he];exact f
    rcases Na.1 M with h | h
    ·exact I _ _ (B e (mL hc h))
    ·rw[NG.1 h,hto];exact K
   ·have h2:xc.kind=1:=h;omega
   ·have:=W hk P;omega
   ·have:=X h;omega
  ·split at l
   ·rename_i t
    cases l
    subst t;rw[MC rfl,hz]at C;refine⟨λ_=>⟨Fo.JB,rfl⟩,λ_ e f=>(by cases f),λh=>?_,λh P=>?_,λh=>?_⟩
    ·show (rh z i:Int)=1;omega
    ·omega
    ·omega
   ·rename_i t
    rw[ME qo]at C;obtain⟨o1,o2,n1,W,X⟩:=R i u l;refine⟨o1,λh e f=>I _ _ (o2 h e f),λh=>?_,λh P=>?_,λh=>?_⟩
    ·have:=n1 h;omega
    ·have:=W h P;omega
    ·have:=X h;omega
 ·have N:∀ p c,Child L p c->Child z p c:=λp c ab=>by
   obtain⟨⟨x,s,e,f,Y⟩,D⟩:=fU.1 ab;obtain⟨u,g1,_,_,g4⟩:=o p x s (by have:=nt Q s f;omega);obtain⟨y,hy,Z⟩:=dZ.1 D;obtain⟨y',b1,_,b3,_⟩:=o c y hy qo;exact fU.2 ⟨⟨u,g1,e,g4 e f,Y⟩,dZ.2 ⟨y',b1,by rw[b3];exact Z⟩⟩
  obtain⟨m,hm⟩:=ik hs (dZ.2 ⟨xc,hc,hk⟩);have V:=mb N m 0 kc hm
  by_cases hcn:c=nn
  ·subst hcn;exact⟨m+1,kc,V,fU.2 ⟨⟨filled xc es nx st,by rw[G,MC rfl],e2,by show e2∈es;rw[he];simp,by rw[hto]⟩,hd⟩⟩
  ·obtain⟨u,l,aa⟩:=dZ.1 hd;rw[G,ME hcn]at l;have D:eu L c=true:=by
    split at l
    ·rename_i t
     subst t;exact dZ.2 ⟨xc,hc,hk⟩
    ·exact dZ.2 ⟨u,l,aa⟩
   obtain⟨d,ha⟩:=ik hs D;exact⟨d,mb N d 0 c ha⟩
end Sp
namespace Sp
theorem kK {L:List cL}{st:Int}(h:top L<=st/\st<=1099511627776):0<=st/\st<=1099511627776:=⟨Oa (iY _) h.1,h.2⟩
theorem Cx {l:List En}{e:En}{k:Nat}(h:e.2.2.1=k)(i):((l++[e]).countP (nJ i):Int)=l.countP (nJ i)+(if i=k then 1 else 0):=by
 rw[NP,N5,List.countP_nil]
 by_cases hi:i=k
 ·rw[MC hi,MC (by simp[nJ,h,hi])];omega
 ·rw[ME hi,ME (by simp[nJ,h];omega)];omega
theorem rK {l:List En}{j:Nat}{e:En}{k:Nat}(hj:l[j]?=some e)(h:e.2.2.1=k)(i):((l.eraseIdx j).countP (nJ i):Int)=l.countP (nJ i)+(if i=k then -1 else 0):=by
 have c:=G7 (nJ i) l j e hj
 by_cases hi:i=k
 ·rw[MC (by simp[nJ,h,hi])]at c;rw[MC hi];omega
 ·rw[ME (by simp[nJ,h];omega)]at c;rw[ME hi];omega
theorem xY {l:List En}{j:Nat}{e:En}{k:Nat}(hj:l[j]?=some e)(h:e.2.2.1=k):∀ x∈l,x∈l.eraseIdx j\/x.2.2.1=k:=λx b=>by
 rcases rY hj x b with a | a
 ·exact .inl a
 ·exact .inr (by rw[a];exact h)
theorem sq {l:List eA}{nx:Int}{s:ByteArray}{no g:Int}(h:Fo.eM l nx s no g=0):Fo.fE (l++[(s,nx+1,no,g)]) (nx+1):=by
 obtain⟨d,a,b,c,f⟩:=Fo.add_zero h;exact Fo.DF d a b c (by have:=d.1.2;omega)
theorem Br {L:List cL}{a b c d st:Int}{s:ByteArray}(h:ng (dW cZ) L a b c d s st=0):cZ (lK (dW cZ) L a b c d s st)=true:=by
 unfold lK;rw[MC h];unfold ng at h
 by_cases hl:ez (dW cZ) L a b c d s st=0
 ·rw[MC hl]at h;obtain⟨⟨i,o⟩,p,q,r,t⟩:=ku hl;obtain⟨-,-,j,-⟩:=eQ _ i;have G:=mj i;obtain⟨B,I,C,k,u,D,l,J⟩:=gL p;obtain⟨E,K,F,f,M,v,w,x,y,-⟩:=jo t;have m:=mc y F f;rw[w,x]at h;rw[l]at q r;have g:=At.cG.1 (m5 J (MG k));unfold At.dN at g;have n:I.kind=1:=qo
  have H:=j K (MG f);rw[l,m,C,F,show ((B:Int)).toNat=B by omega,show ((E:Int)).toNat=E by omega];rw[C]at h;refine vm G f v k n (kK o) (sq h) (by rw[MW,O2];omega) ⟨qo,qo⟩ (Cx rfl) (λe A=>?_) (λe A=>.inl (Oh _ A));rcases Na.1 A with z | z
  ·exact .inl z
  ·exact .inr (by rw[NG.1 z,<-u])
 ·rw[ME hl]at h;exact absurd h hl
theorem yL {L:List cL}{a b st:Int}{s:ByteArray}(h:vR (dW cZ) L a b s st=0):cZ (yQ (dW cZ) L a b s st)=true:=by
 unfold yQ;rw[MC h];unfold vR at h
 by_cases hl:fT (dW cZ) L st a b s=0
 ·rw[MC hl]at h;obtain⟨n,z,j,e,r,t,A,f,B,g,C,D,E,u,v,c,F,i,G,w,H,I,k,o,J,p,K⟩:=jT eQ hl;have q:cZ L=true:=by
   unfold fT at hl
   by_cases l:gv (dW cZ) L st=0
   ·exact mj (iZ l).1
   ·rw[ME l]at hl;exact absurd hl l
  rw[v,k]at h;rw[v,k];have x:t.kind≠2:=λl=>by
   rw[MC l]at h;exact absurd h qd
  have d:=At.cG.1 (m5 J (MG i));unfold At.dN at d;have m:t.kind=1:=qo
  unfold gd;rw[o,E,A,c,show ((n:Int)).toNat=n by omega,show ((j:Int)).toNat=j by omega,show ((r:Int)).toNat=r by omega];have y:=((kA q n z f).1 g).1;exact vm q f g i m (kK p) (Fo.sr y j) (MS (NZ ..) qo) ⟨qo,qo⟩ (rK u c) (λe M=>.inl (OO M)) (xY u c)
 ·rw[ME hl]at h;exact absurd h hl
theorem Av {L:List cL}{a b st:Int}{s:ByteArray}(h:yN (dW cZ) L a b s st=0):cZ (D3 (dW cZ) L a b s st)=true:=by
 unfold D3;rw[MC h];unfold yN at h
 by_cases hl:fT (dW cZ) L st a b s=0
 ·rw[MC hl]at h;obtain⟨i,y,j,e,m,u,z,c,A,g,B,C,D,k,v,d,n,f,o,w,E,F,p,q,I,r,G⟩:=jT eQ hl;have t:cZ L=true:=by
   unfold fT at hl
   by_cases h2:gv (dW cZ) L st=0
   ·exact mj (iZ h2).1
   ·rw[ME h2]at hl;exact absurd hl h2
  rw[v,p]at h;rw[v]
  by_cases hk2:u.kind=2
  ·rw[MC hk2]at h
   by_cases hen:u.cE=[]
   ·unfold gd;rw[q,D,z,d,<-o,show ((i:Int)).toNat=i by omega,show ((j:Int)).toNat=j by omega,show ((m:Int)).toNat=m by omega];have x:=((kA t i y c).1 g).1;have l:i≠m:=by
     rintro rfl;rw[c]at f
     cases f
     rw[hen]at k;simp at k
    exact FD t c g f hk2 hen n l (kK r) (Fo.sr x j) (MS (NZ ..) qo) (rK k d) (λe H=>OO H) (xY k d)
   ·rw[ME hen]at h;exact absurd h qd
  ·rw[ME hk2]at h;exact absurd h qd
 ·rw[ME hl]at h;exact absurd h hl
theorem B9 {L:List cL}{a b kind st:Int}{s:ByteArray}(h:p6 (dW cZ) L a b s kind st=0):cZ (vL (dW cZ) L a b s kind st)=true:=by
 unfold vL;rw[MC h];unfold p6 at h
 by_cases hl:dL (dW cZ) L a b s kind st=0
 ·rw[MC hl]at h;obtain⟨⟨k,p⟩,f,q⟩:=mK hl
  by_cases hm:It.dL L kind st=0
  ·rw[MC hm]at h;obtain⟨-,-,l,-⟩:=eQ _ k;have C:=mj k;obtain⟨E,-,x,F,z⟩:=ss hm;obtain⟨g,-⟩:=wQ hm;obtain⟨A,G,B,i,H,r,t,u,v,-⟩:=jo q;have n:=mc v B i;obtain⟨I,-⟩:=xp E;have D:=l G (MG i);have o:∃ d:Nat,(next L).1=d/\((∃ x0,L[d]?=some x0/\x0.kind=0)\/d=L.length):=by
    rcases lg L with⟨j,y,J,w,-,e⟩ | e
    ·exact⟨j,by rw[e],.inl ⟨y,J,w⟩⟩
    ·exact⟨L.length,by rw[e],.inr rfl⟩
   obtain⟨d,c,m⟩:=o;rw[t,u,z]at h;rw[F]at g |-;rw[n,z,B];rw[c,show ((d:Int)).toNat=d by omega]at g;rw[c,show ((d:Int)).toNat=d by omega,show ((A:Int)).toNat=A by omega];rw[c]at h;exact H9 C i r f m qo g (kK p) (sq h) (by rw[MW,O2];omega) rfl rfl
  ·rw[ME hm]at h;exact absurd h hm
 ·rw[ME hl]at h;exact absurd h hl
theorem yg {L:List cL}{a b c d st:Int}{s s2:ByteArray} (h:yh (dW cZ) l7 L a b s c d s2 st=0):cZ (vK (dW cZ) l7 L a b s c d s2 st)=true:=by
 unfold vK;rw[MC h];unfold yh at h
 by_cases hl:fT (dW cZ) L st a b s=0
 ·rw[MC hl]at h;obtain⟨p,g,j,e,M,xt,U,f,V,i,W,X,Y,z,N,k,Z,aa,ab,O,ac,ad,af,A,B,m,C⟩:=jT eQ hl;have n:dW cZ L=0:=by
   unfold fT at hl
   by_cases h2:gv (dW cZ) L st=0
   ·exact (iZ h2).1
   ·rw[ME h2]at hl;exact absurd hl h2
  have v:=mj n;obtain⟨-,-,q,-⟩:=eQ _ n;rw[N]at h;rw[N]
  by_cases hm:iz l7 L e.2.2.1 c d s2=0
  ·rw[MC hm]at h;have w:=mF hm;obtain⟨r,xd,D,t,ag,E,-,-,ah,-⟩:=jo w;have x:eu L M=true->¬ ∃ d,kj L d M r:=λG H=>by
    have R:=(Hy v G).2 H;unfold iz at hm
    by_cases hq:(fH L c d s2=0\/fH L c d s2=403)/\l7 L e.2.2.1 c=true
    ·rw[MC hq]at hm;exact absurd hm (by decide)
    ·rw[ME hq]at hm;exact hq ⟨.inl hm,by rw[k,D];exact R⟩
   have S:=((kA v p g f).1 i).1;have o:=Fo.sr S j;have l:(g.cE.eraseIdx j).length<=1536:=MS (NZ ..) C;have J:gd L a b s st=L.set p (filled g (g.cE.eraseIdx j) g.next st):=by
    unfold gd;rw[A,Y,U,show ((p:Int)).toNat=p by omega,show ((j:Int)).toNat=j by omega]
   have T:It.right (L.set p (filled g (g.cE.eraseIdx j) g.next st))=true:=gA B f (fQ ((It.cG.1 B).2.2 g (MG f)) i (kK m) (by omega) (nx:=g.next)) rfl;obtain⟨P,u,ai,F,aj,Q,-⟩:=Mk f i l (λe I=>OO I) m t E (q xd (MG t)) T;have K:sZ L a b s st c=P:=by
    unfold sZ;rw[J,D,show ((r:Int)).toNat=r by omega,u];rfl
   rw[K]at h;rw[K,J,D,show ((r:Int)).toNat=r by omega];have y:=kV B (kA v) e (mL f (MG z));exact Gy (e2:=(s2,P.next+1,e.2.2.1,e.2.2.2)) v f i u F (kK m) o qo (sq h) (by rw[MW,O2];omega) rfl k y (rK z k) (λe I=>OO I) (xY z k) x
  ·rw[ME hm]at h;exact absurd h hm
 ·rw[ME hl]at h;exact absurd h hl
end Sp
end Go.Proofs.YtiifhfmekbhlnaaGreat
namespace Go.Proofs.YtiifhfmekbhlnaaGreat.Bs
namespace Bl
theorem Am {l:List R}:∀ {a:Int},right a l->a<=Cv->(total l:Int)+l.length<=Cv-a:=by
 induction l with
 | nil=>intro a _ b;simp[total];omega
 | cons s l ih =>
  intro a h b;have c:=h.1;have:=ih h.2 (by unfold ee;omega);simp only[total,List.map_cons,List.sum_cons,List.length_cons]at this |-;unfold ee at *;omega
def made (l:List (Int × UInt8)):List R:=eC [] (l.map λq=>(q.1,jA [q.2]))
end Bl
end Go.Proofs.YtiifhfmekbhlnaaGreat.Bs
namespace Go.Proofs.YtiifhfmekbhlnaaGreat.Bs
open ChangeShapes WideShapes ChangeAt RowKit Deep
theorem cT.sj {base:Nat}{w:World}{v:Value}{e:TypeId}{l:List (Int × ByteArray)}(h:w.ownsRow base e 2 v l.length (cellsOf l)):cT w.1.size w v l:=by
 have a:=h.lt;rcases h.2 with⟨rfl,n⟩ | ⟨g,b,o,rfl,p,r,c,d,q,f⟩
 ·exact .inl ⟨none,0,rfl,MX n⟩
 ·by_cases hp:0<l.length
  ·refine .inr ⟨g,0,b,rfl,(a g rfl).2,hp,c,d,λi m=>?_⟩;have j:=h.cells (g:=g) rfl (i*2) _ (jG l i m).1;have k:=h.cells (g:=g) rfl (i*2+1) _ (jG l i m).2;rw[Nu]at j k;exact⟨j,by rw[NC];exact k⟩
  ·have:l=[]:=MX (by omega);subst this;exact .inl ⟨_,_,rfl,rfl⟩
theorem laidOut:laidOutB Tryz.prog=true:=qk
theorem own:ownKnob Tryz.prog.godebug=none:=qk
namespace Bl
theorem oq {l:List R}{size at_ n:Int}(hr:right (-1) l)(h:¬ (size<0\/1048576<size\/at_<0\/n<0\/512<n)):fu l size at_ n=0:=by unfold fu;rw[MC hr,ME h]
end Bl
end Go.Proofs.YtiifhfmekbhlnaaGreat.Bs
namespace Go.Proofs.YtiifhfmekbhlnaaGreat.Bs
open ChangeShapes WideShapes ChangeAt RowKit Deep
namespace Bl
theorem uU (a b)(l)(hb:0<=b):dE 0 (within a b l)<=b:=by
 rcases fP (within a b l)with h | ⟨m,s,h⟩
 ·rw[h];exact hb
 ·rw[h,eI];show ee s<=b;exact (pk s (by rw[h];simp)).2.1
end Bl
end Go.Proofs.YtiifhfmekbhlnaaGreat.Bs
namespace Go.Proofs.YtiifhfmekbhlnaaGreat.Os
namespace Op
theorem cG : ∀ (l : List dP) (t : Int),right t l=true ↔ (∀ x ∈ l,lL t x) ∧ l.Pairwise (λa b => a.1<b.1)
 | [],t=>by simp[right]
 | x::r,t => by
  rw[right,MR,OX,cG r,N9];constructor
  ·rintro ⟨h1,h2,h3⟩
   refine⟨λy hy=>?_,λy hy=>?_,h3⟩
   ·rcases Ni.1 hy with rfl | hy
    ·exact h1
    ·have := h2 y hy
     exact⟨⟨by have:=this.1.1;have:=h1.1.1;omega,this.1.2⟩,this.2⟩
   ·have := (h2 y hy).1.1
    omega
  ·rintro ⟨h1,h2,h3⟩
   refine⟨h1 x qs,λy hy=>?_,h3⟩;have:=h1 y (by simp[hy]);have:=h2 y hy;exact⟨⟨qo,(h1 y (by simp[hy])).1.2⟩,(h1 y (by simp[hy])).2⟩
theorem Ja {l:List dP}{y:dP}(hy:y∈l.take (least 0 l)):y.1<(least 0 l:Int):=by
 obtain⟨j,b⟩:=M1.1 hy;have a:j<least 0 l:=by have:=(MN.1 b).1;simp at this;omega
 rw[List.getElem?_take_of_lt a]at b;have:=Kl a b;omega
theorem F2 {l:List dP}(hr:right 0 l=true){y:dP}(hy:y∈l.drop (least 0 l)):(least 0 l:Int)<y.1:=by
 obtain⟨j,a⟩:=M1.1 hy;rw[List.getElem?_drop]at a;exact A7 hr qo a
section
variable {l:List dP} {c no gen:Int} (he:iA l c no gen = 0)
include he
theorem zg:ask l c=0/\right 0 l=true/\Cl c/\Ho no gen/\l.length<16/\opened l c no gen=l.take (least 0 l)++[((least 0 l:Int),c,no,gen)]++l.drop (least 0 l)/\mu l c no gen=(least 0 l:Int):=by
 rcases De l c no gen with⟨_,a,b,d,f,g⟩ | ⟨h,a⟩ | ⟨h,_,_⟩ | ⟨h,_,_,_,_⟩
 ·exact⟨a,b,d,f,g,MC he,MC he⟩
 ·rw[he]at h
  exact absurd h.symm a
 ·rw[he]at h
  cases h
 ·rw[he]at h
  cases h
theorem Gu : right 0 (opened l c no gen)=true := by
 obtain⟨-,i,m,n,t,o,-⟩:=zg he;have k:=zy l;rw[o,cG];obtain⟨j,p⟩:=(cG l 0).1 i;have h:(l.take (least 0 l)++l.drop (least 0 l)).Pairwise (λa b:dP=>a.1<b.1):=by rw[Nj];exact p
 obtain⟨q,r,s⟩:=O7.1 h;refine⟨λx f=>?_,?_⟩
 ·simp only[List.mem_append,List.mem_singleton]at f
  rcases f with (f | rfl) | f
  ·exact j x (List.mem_of_mem_take f)
  ·exact⟨⟨qs,qt⟩,m,n⟩
  ·exact j x (List.mem_of_mem_drop f)
 ·rw[O7,O7]
  refine⟨⟨q,qs,λa d b g=>?_⟩,r,λa d b g=>?_⟩
  ·simp at g
   subst g;exact Ja d
  ·rcases Na.1 d with d | d
   ·exact s a d b g
   ·simp at d
    subst d;exact F2 i g
end
end Op
end Go.Proofs.YtiifhfmekbhlnaaGreat.Os
namespace Go.Proofs.YtiifhfmekbhlnaaGreat
open It
namespace Nf
theorem Lw {c:UInt8}(h:c≠46/\c≠47/\c≠0):Nm.ok ⟨#[c]⟩:=by
 refine⟨by simp[ByteArray.size],by simp[ByteArray.size],λe=>?_,λe=>?_,?_⟩
 ·have : #[c]=#[46] := Ox ByteArray.data e
  simp at this;exact h.1 this
 ·have : #[c]=#[46,46] := Ox ByteArray.data e
  simp at this
 ·intro i b _
  have a:i=0:=by
   have:i<1:=b;omega
  subst a;show c.toNat≠47/\c.toNat≠0;exact⟨λe=>h.2.1 (UInt8.toNat_inj.1 e),λe=>h.2.2 (UInt8.toNat_inj.1 e)⟩
theorem zk {nx:Int}(h:0<=nx/\nx<=1099511627776):Fo.fE [] nx:=⟨h,λi a=>by simp at a,by simp[Fo.apart]⟩
theorem Jn {L:List cL}{st:Int}(h:Sp.cZ L=true)(ht:Sp.top L<=st/\st<=1099511627776):Sp.gv (Sp.dW Sp.cZ) L st=0:=by
 unfold Sp.gv Sp.dW;rw[MC h,MC rfl,MC ht]
theorem DV {L:List cL}{a b nx:Int}{s:ByteArray}{es:List eA}(hd:Sp.eS L a b=0)(he:Sp.fc L a b=es)(hn:Sp.fy L a b=nx)(hr:Fo.fE es nx)(hs:Nm.ok s)(ha:Fo.ri (Fo.called s) es = -1):Sp.fH L a b s=0/\∀ no gen,Ho no gen->nx≠1099511627776->Fo.eM es nx s no gen=0:=by
 have c:Fo.ask es nx s=0:=by rw[Fo.mh (Fo.jP hr),Nm.jP hs]
 have d:=(Fo.m8 c ha).1;have f:Sp.eY L a b s=402:=by unfold Sp.eY;rw[MC hd,he,hn,d]
 refine⟨by unfold Sp.fH;rw[f];rfl,λno gen g h=>Fo.Fu c g ha h⟩
theorem F5 {L:List cL}{O:List Os.dP}{dn:Int}(h:Sp.cZ L=true)(h2:(Os.Op.right 0 O&&(iT L O&&(decide (eU L<=8192)&&ko L dn)))=true):right L O dn=true:=by
 unfold right;rw[h,h2];rfl
theorem GV {L:List cL}{O:List Os.dP}{dn cl:Int}(h:right L O dn=true)(hd:dn≠1099511627776)(hc:0<=cl/\cl<=1099511627776):eP L O dn cl=0:=by
 unfold eP;rw[MC h,ME hd,MC hc]
theorem Jd {L:List cL}{O:List Os.dP}{dn cl:Int}{c:fw}(h:eP L O dn cl=0)(hc:Ks.Ak.right c=true):kI L O dn cl c=rep L O (dn+1) cl c/\EL L O dn cl c=tab L O (dn+1) cl c/\Fi L O dn cl c=ops L O cl c/\C3 L O dn cl=dn+1:=by
 unfold kI EL Fi C3;rw[MC h,MC h,MC h,MC h,MC hc,MC hc,MC hc];exact⟨rfl,rfl,rfl,rfl⟩
abbrev xA:ByteArray:=⟨#[97]⟩
abbrev xX:ByteArray:=⟨#[120]⟩
abbrev e0:ByteArray:=⟨#[]⟩
theorem Mt:Nm.ok xA:=Lw qd
def F1:List cL:=[⟨1,2,1,1,1,[],[(xA,1,1,1)],1⟩,⟨1,1,1,0,1,[],[],0⟩]
abbrev c1:fw:=⟨3,0,1,0,0,xA,e0,0,0,e0⟩
abbrev c2:fw:=⟨13,1,1,0,0,e0,e0,0,0,e0⟩
abbrev c3:fw:=⟨9,0,1,0,0,xA,e0,0,0,e0⟩
abbrev c4:fw:=⟨6,1,1,0,0,e0,e0,0,0,xX⟩
abbrev c5:fw:=⟨14,0,0,0,0,e0,e0,0,0,e0⟩
abbrev c6:fw:=⟨5,1,1,0,0,e0,e0,0,1,e0⟩
theorem EV:Sp.oV new:=λx a=>by
 simp[new,fresh]at a;subst a;exact λ_=>⟨zk qd,rfl⟩
theorem AO:Sp.cZ new=true:=Sp.ei.2 ⟨qd,EV,qd,qd⟩
theorem wS:right new [] 0=true:=F5 AO (by decide +kernel)
theorem Mh:Sp.p6 (Sp.dW Sp.cZ) new 0 1 xA 1 1=0/\Sp.vL (Sp.dW Sp.cZ) new 0 1 xA 1 1=F1/\Sp.sL (Sp.dW Sp.cZ) new 0 1 xA 1 1=(1,1):=by
 obtain⟨h,i⟩:=DV (L:=new) (a:=0) (b:=1) (s:=xA) (es:=[]) (nx:=0) qd qd qd (zk qd) Mt qd;have f:Sp.dL (Sp.dW Sp.cZ) new 0 1 xA 1 1=0:=by unfold Sp.dL;rw[MC (Jn AO qd),MC qd,h]
 have g:It.dL new 1 1=0:=qd
 have c:lF new 1 1=(1,1):=qd
 have d:Sp.p6 (Sp.dW Sp.cZ) new 0 1 xA 1 1=0:=by
  unfold Sp.p6;rw[MC f,MC g,c,show Sp.fc new 0 1=[] from by decide,show Sp.fy new 0 1=0 from by decide];exact i 1 1 qd qd
 refine⟨d,?_,by unfold Sp.sL;rw[MC d,c]⟩;unfold Sp.vL;rw[MC d,c];rfl
theorem LI:kI new [] 0 5 c1=⟨0,1,1,1,1,0,1,e0,[],0⟩/\EL new [] 0 5 c1=F1/\Fi new [] 0 5 c1=[]/\C3 new [] 0 5=1:=by
 obtain⟨d,f,g,h⟩:=Jd (c:=c1) (GV (cl:=5) wS qd qd) qd;obtain⟨a,b,i⟩:=Mh;refine⟨?_,?_,?_,h⟩
 ·rw[d,show rep new [] (0+1) 5 c1=lr new c1 1 1 from by simp[rep]]
  unfold lr told;rw[a,b,i,MC rfl];rfl
 ·rw[f,show tab new [] (0+1) 5 c1=nj new c1 1 1 from by simp[tab]]
  unfold nj;rw[a,b,MC rfl]
 ·rw[g]
  simp[ops]
end Nf
end Go.Proofs.YtiifhfmekbhlnaaGreat
namespace Go.Proofs.YtiifhfmekbhlnaaGreat
open It RowKit
namespace Nf
theorem tB {x:Int}(h:0<=x/\x<=9223372036854775807):wrap64 x=x:=by
 unfold wrap64;omega
theorem br:∀ (l:List (Int × ByteArray)) (a:Int),Bs.Bl.right a l ↔ Bl.right a l
 | [],_=>Iff.rfl
 | _::l,_=>and_congr Iff.rfl (br l _)
theorem ble:∀ (l:List (Int × ByteArray)) (a:Int),Bs.Bl.dE a l=Bl.dE a l
 | [],_=>rfl
 | _::l,_=>ble l _
theorem L8 (l):Bs.Bl.fA l=Bl.fA l:=by
 unfold Bs.Bl.fA Bl.fA
 by_cases h:Bl.right (-1) l
 ·rw[MC h,MC ((br l _).2 h),ble]
 ·rw[ME h,ME (λa=>h ((br l _).1 a))]
abbrev lk (l:List (Int × ByteArray)):Nat:=Bs.Bl.total l
theorem vx {l:List (Int × ByteArray)}(h:Bl.right (-1) l):(lk l:Int)<=1048577:=by
 have:(lk l:Int)+l.length<=_:=Bs.Bl.Am ((br l _).2 h) (by decide);have e:Bs.Bl.Cv=1048576:=rfl;omega
theorem Dd:∀ (l:List (Int × ByteArray)) (y:Int),0<=y->y+(lk l:Int)<=9223372036854775807->l.foldl (λy r=>wrap64 (y+(r.2.size:Int))) y=y+(lk l:Int)
 | [],y,_,_=>by simp[Bs.Bl.total]
 | r::l,y,h0,h => by
  have e:lk (r::l)=r.2.size+lk l:=by simp[Bs.Bl.total]
  rw[e]at h |-;rw[O0,tB qo,Dd l _ qo qo];omega
theorem vv {l:List (Int × ByteArray)}(h:Bl.right (-1) l):Bl.ml l=(lk l:Int):=by
 have:=vx h;unfold Bl.ml;rw[Dd l 0 qo qo];omega
theorem BB {x:cL}(h:one x=true):Bl.right (-1) x.runs:=by
 unfold one at h;simp only[Bool.and_eq_true]at h;have a:=h.2.2;split at a
 ·rw[Oi.1 a];trivial
 ·split at a
  ·simp only[Bool.and_eq_true,decide_eq_true_eq]at a
   exact a.1.2
  ·simp only[Bool.and_eq_true]at a
   rw[Oi.1 a.2];trivial
theorem zo {x:cL}(h:one x=true)(hk:x.kind≠1):x.runs=[]:=by
 unfold one at h;simp only[Bool.and_eq_true]at h;have a:=h.2.2;split at a
 ·exact Oi.1 a
 ·simp only[Bool.and_eq_true]at a
  exact Oi.1 a.2
def By (L:List cL):Nat:=(L.map λx=>lk x.runs).sum
theorem lI (x)(L):By (x::L)=lk x.runs+By L:=by simp[By]
theorem FP:∀ (L:List cL) (y:Int),(∀ x∈L,Bl.right (-1) x.runs)->0<=y->y+L.length*1048577<=9223372036854775807->L.foldl (λy x=>wrap64 (y+Bl.ml x.runs)) y=y+(By L:Int)
 | [],y,_,_,_=>by simp[By]
 | x::L,y,hx,h0,h => by
  have h1:=hx x qs;have h2:=vx h1;rw[MZ]at h;rw[O0,vv h1,tB qo,FP L _ (λz hz=>hx z (by simp[hz])) qo qo,lI];omega
theorem Bq {L:List cL}(h:It.right L=true):eU L=(By L:Int):=by
 obtain⟨c,_,a⟩:=It.cG.1 h;unfold eU;rw[FP L 0 (λx b=>BB (a x b)) qo qo];omega
theorem uP:∀ (L:List cL) (k:Nat) (x y:cL),L[k]?=some x->By (L.set k y)+lk x.runs=By L+lk y.runs
 | [],k,x,y,h=>by simp at h
 | z::L,0,x,y,h => by
  simp at h;subst h;rw[List.set_cons_zero,lI,lI];omega
 | z::L,k+1,x,y,h => by
  have ih:=uP L k x y (by simpa using h);rw[List.set_cons_succ,lI,lI];omega
theorem xN:∀ (L L':List cL),L.length<=L'.length->(∀ (i:Nat) (x':cL),L'[i]?=some x'->(∃ x,L[i]?=some x/\lk x'.runs=lk x.runs)\/(L.length<=i/\lk x'.runs=0))->By L'=By L
 | [],[],_,_=>rfl
 | [],y::L',_,h => by
  rw[lI,xN [] L' qs (λi x' hx=>by
   rcases h (i+1) x' (by simpa using hx)with⟨x,hx,_⟩ | h
   ·simp at hx
   ·exact .inr ⟨qs,h.2⟩)]
  rcases h 0 y rfl with⟨x,hx,_⟩ | h
  ·simp at hx
  ·rw[h.2];simp[By]
 | x::L,[],h,_=>by simp at h
 | x::L,y::L',hl,h => by
  rw[lI,lI,xN L L' (by simpa using hl) (λi x' hx=>by
   rcases h (i+1) x' (by simpa using hx)with h | h
   ·left;simpa using h
   ·right;simpa using h)]
  rcases h 0 y rfl with⟨z,hz,e⟩ | h
  ·simp at hz
   subst hz;rw[e]
  ·simp at h
def Hl (O:List Os.dP) (no gen:Int):Prop:=∃ o∈O,o.2.2.1=no/\o.2.2.2=gen
theorem F8 {O:List Os.dP}{no gen:Int}:0<Os.Op.held O no gen ↔ Hl O no gen:=by
 unfold Os.Op.held Hl;rw[List.countP_pos_iff];simp
def Fl (L:List cL) (O:List Os.dP):Prop:=(∀ o∈O,∃ (i:Nat) (x:cL),L[i]?=some x/\o.2.2.1=(i:Int)/\x.gen=o.2.2.2/\x.kind=1)
def Nd (L:List cL) (O:List Os.dP) (q:Nat->Prop):Prop:=∀ (i:Nat) (x:cL),L[i]?=some x->x.kind=1->x.cH<=0->¬ q i->Hl O i x.gen
theorem r9 {L:List cL}{no gen:Int}:(no,gen)∈files L ↔ ∃ (i:Nat) (x:cL),L[i]?=some x/\no=(i:Int)/\x.gen=gen/\x.kind=1:=by
 unfold files;rw[NK,kW,dY];constructor
 ·rintro ⟨⟨i,x,a,rfl,b,d⟩,c⟩
  unfold fileAt at c;rw[show ((i:Int),gen).1.toNat=i from by show ((i:Int)).toNat=i;omega,a]at c;exact⟨i,x,a,rfl,b,by simpa using c⟩
 ·rintro ⟨i,x,a,rfl,b,d⟩
  refine⟨⟨i,x,a,rfl,b,qo⟩,?_⟩;unfold fileAt;rw[show ((i:Int),gen).1.toNat=i from by show ((i:Int)).toNat=i;omega,a];simpa using d
theorem pZ {L:List cL}{O:List Os.dP}{i:Nat}{x:cL}(hx:L[i]?=some x):k8 L O ((i:Int),x.gen)=true ↔ 0<x.cH\/Hl O i x.gen:=by
 unfold k8 yp;rw[show ((i:Int),x.gen).1.toNat=i from by show ((i:Int)).toNat=i;omega,hx];simp only[Bool.or_eq_true,decide_eq_true_eq];refine or_congr Iff.rfl ?_;rw[<-F8];omega
theorem nC {L:List cL}{O:List Os.dP}:iT L O=true ↔ Fl L O/\Nd L O (λ_=>False):=by
 unfold iT;rw[MR];refine and_congr ?_ ?_
 ·rw[Oc,OM]
  refine forall_congr' λo=>forall_congr' λl=>?_
  simp only[Bool.not_eq_true',decide_eq_false_iff_not,Classical.not_not];rw[r9]
 ·rw[Oc,OM]
  constructor
  ·intro h i x a b d _
   have c:=h ((i:Int),x.gen) (r9.2 ⟨i,x,a,rfl,rfl,b⟩);simp only[Bool.not_eq_true',Bool.not_eq_false]at c;rcases (pZ a).1 c with f | f
   ·omega
   ·exact f
  ·intro h p g
   obtain⟨k,j⟩:=p;obtain⟨i,x,a,rfl,rfl,b⟩:=r9.1 g;simp only[Bool.not_eq_true',Bool.not_eq_false];refine (pZ a).2 ?_
   by_cases d:0<x.cH
   ·exact .inl d
   ·exact .inr (h i x a b qo id)
theorem vg {L:List cL}{dn:Int}:ko L dn=true ↔ (0<=dn/\dn<=1099511627776)/\∀ x∈L,x.cF<=dn:=by
 unfold ko;rw[MR,OX,Oc,OM];simp only[decide_eq_true_eq,Int.not_lt]
structure RX (L:List cL) (O:List Os.dP) (dn:Int) (q:Nat->Prop):Prop where
 sp:Sp.cZ L = true
 os:Os.Op.right 0 O = true
 fl:Fl L O
 nd:Nd L O q
 F0:By L<=8192
 dn:(0<=dn/\dn<=1099511627776)/\∀ x∈L,x.cF<=dn
theorem nI {L:List cL}{O:List Os.dP}{dn:Int}:right L O dn=true ↔ RX L O dn (λ_=>False):=by
 constructor
 ·intro h
  obtain⟨a,c,b,d,f⟩:=pA h;rw[Bq (Sp.ei.1 a).1]at d;exact⟨a,c,(nC.1 b).1,(nC.1 b).2,qo,vg.1 f⟩
 ·intro h
  unfold right;simp only[Bool.and_eq_true,decide_eq_true_eq];refine⟨h.sp,h.os,nC.2 ⟨h.fl,h.nd⟩,?_,vg.2 h.dn⟩;rw[Bq (Sp.ei.1 h.sp).1];have:=h.F0;omega
end Nf
namespace Nf
def JP (st:Int) (q:Prop) (P:eA->Prop) (x x':cL):Prop :=
 (x'.gen=x.gen/\x'.kind=x.kind/\x'.runs=x.runs/\(x.kind=1->x'.size=x.size)/\(x'.cF=x.cF\/x'.cF=st)/\(x.cH<=x'.cH\/q)/\∀ e∈x.cE,e∈x'.cE\/P e)\/(x.kind=2/\x.cE=[]/\x'=gone x.gen)\/(x.kind=0/\∃ g k,x'=fresh g k st)
theorem tS {st:Int}{q:Prop}{P:eA->Prop}(x):JP st q P x x:=.inl ⟨rfl,rfl,rfl,λ_=>rfl,.inl rfl,.inl (Ng _),λ_ h=>.inl h⟩
structure Ah (L L':List cL) (st:Int) (kt:Nat) (P:eA->Prop):Prop where
 sp:Sp.cZ L' = true
 len:L.length<=L'.length
 Fh:∀ (i:Nat) (x:cL),L[i]? = some x->∃ x',L'[i]? = some x'/\JP st (i = kt) P x x'
 new:∀ (i:Nat) (x':cL),L.length<=i->L'[i]? = some x'->∃ g k,x' = fresh g k st
theorem Ah.back {L L':List cL}{st:Int}{kt:Nat}{P:eA->Prop}(c:Ah L L' st kt P){i:Nat}{x':cL}(h:L'[i]?=some x'):(∃ x,L[i]?=some x/\JP st (i=kt) P x x')\/(L.length<=i/\∃ g k,x'=fresh g k st):=by
 by_cases hi:L.length<=i
 ·exact .inr ⟨hi,c.new i x' hi h⟩
 ·left
  have a:L[i]?=some L[i]:=MF (by omega);obtain⟨y,b,d⟩:=c.Fh i _ a;rw[h]at b
  cases b
  exact⟨_,a,d⟩
theorem FC {L L' : List cL}{O : List Os.dP}{dn : Int}{kt : Nat}{P : eA → Prop}(h : RX L O dn (λ_ => False))(hd : dn+1 ≤ 1099511627776)(c : Ah L L' (dn+1) kt P) : RX L' O (dn+1) (λi => i=kt) := by
 have t:=(Sp.ei.1 h.sp).1;have j:=(It.cG.1 t).2.2;refine⟨c.sp,h.os,λo v=>?_,λi m b r p w=>?_,?_,⟨by have:=h.dn.1;omega,by have:=h.dn.1;omega⟩,λm b=>?_⟩
 ·obtain⟨i,x,d,q,z,r⟩ := h.fl o v
  obtain⟨m,b,s⟩:=c.Fh i x d;rcases s with⟨f,a,_⟩ | ⟨f,_⟩ | ⟨f,_⟩
  ·exact⟨i,m,b,q,qo,qo⟩
  ·omega
  ·omega
 ·rcases c.back b with⟨x,d,⟨f,a,_,_,_,n,_⟩ | ⟨f,_,a⟩ | ⟨f,g,k,a⟩⟩ | ⟨l,g,k,a⟩
  ·rcases n with n | n
   ·rw[f]
    exact h.nd i x d qo qo id
   ·exact absurd n w
  ·rw[a]at r
   exact absurd (show (0:Int)=1 from r) qd
  ·rw[a]at p
   exact absurd (show (1:Int)<=0 from p) qd
  ·rw[a]at p
   exact absurd (show (1:Int)<=0 from p) qd
 ·rw[xN L L' c.len λi m b => ?_]
  ·exact h.F0
  ·rcases c.back b with⟨x,d,⟨f,a,u,_⟩ | ⟨f,_,a⟩ | ⟨f,g,k,a⟩⟩ | ⟨l,g,k,a⟩
   ·exact .inl ⟨x,d,by rw[u]⟩
   ·exact .inl ⟨x,d,by rw[zo (j x (MG d)) qo,a];rfl⟩
   ·exact .inl ⟨x,d,by rw[zo (j x (MG d)) qo,a];rfl⟩
   ·exact .inr ⟨l,by rw[a];rfl⟩
 ·obtain⟨i,l⟩ := M1.1 b
  have y:=h.dn.1;rcases c.back l with⟨x,d,⟨_,_,_,_,A,_⟩ | ⟨f,_,a⟩ | ⟨f,g,k,a⟩⟩ | ⟨l,g,k,a⟩
  ·have := h.dn.2 x (MG d)
   omega
  ·rw[a]
   show (0:Int)<=dn+1;omega
  ·rw[a]
   exact Ng _
  ·rw[a]
   exact Ng _
theorem qP {L:List cL}{k:Nat}{x y:cL}(hx:L[k]?=some x)(i):(L.set k y)[i]?=if i=k then some y else L[i]?:=by
 have a:=(MN.1 hx).1;rw[Nz]
 by_cases h:i=k
 ·subst h
  simp[a]
 ·rw[ME (λe=>h e.symm),ME h]
theorem wB {x:cL}(h:one x=true)(hk:x.kind≠2):x.cE=[]:=by
 unfold one at h;simp only[Bool.and_eq_true]at h;have a:=h.2.2;rw[ME hk]at a;split at a
 all_goals
  simp only[Bool.and_eq_true]at a
  first | exact Oi.1 a.1.1.1 | exact Oi.1 a.1.1
theorem Gh {L : List cL}{k : Nat}{x y : cL}(hs : Sp.cZ L=true)(hx : L[k]?=some x)(hk : x.kind=1)(hr : It.right (L.set k y)=true)(he : y.cE=[])(hy : (y.kind=1 ∧ y.gen=x.gen ∧ y.cH=x.cH) \/ (y.kind=0 ∧ x.cH=0)) : Sp.cZ (L.set k y)=true := by
 have q:=(Sp.ei.1 hs).1;have n:=Sp.kA hs;have g:=wB ((It.cG.1 q).2.2 x (MG hx)) qo;have o:=qP (y:=y) hx;have r:k≠0:=by
  rintro rfl;have:=Sp.kH q hx;omega
 have D:∀ i:Int,Sp.rh (L.set k y) i=Sp.rh L i:=by
  intro i;have E:=Sp.vY (Sp.nJ i) L k x y hx;rw[he,g]at E;unfold Sp.rh;omega
 have l:=Sp.kV q n;have s:∀ e∈Sp.dk L,names (L.set k y) e.2.2.1 e.2.2.2=true:=λe he=>Sp.nM (l e he) λj z a B N=>by
  rw[o]
  by_cases hj:j=k
  ·subst hj
   rw[hx]at a
   cases a
   rw[MC rfl];rcases hy with h | h
   ·exact⟨y,rfl,h.2.1,qo⟩
   ·exfalso
    have F:=(n j x hx).2.2.1 hk;have G:(Sp.dk L).countP (Sp.nJ j)=0:=by
     unfold Sp.rh at F;omega
    exact Ph.1 G e he (by simp[Sp.nJ,B])
  ·rw[ME hj]
   exact⟨z,a,rfl,rfl⟩
 have m:∀ c,Sp.eu (L.set k y) c=true ↔ Sp.eu L c=true:=λc=>by
  rw[Sp.dZ,Sp.dZ,o]
  by_cases hc:c=k
  ·subst hc
   rw[MC rfl,hx];constructor
   ·rintro ⟨z,a,t⟩
    cases a
    omega
   ·rintro ⟨z,a,t⟩
    cases a
    omega
  ·rw[ME hc]
 refine Sp.qz hr (λi O b=>?_) λc P=>?_
 ·rw[o]at b
  have H:=D (i:Int);split at b
  ·rename_i e1
   cases b
   subst e1;obtain⟨_,_,u,_,_⟩:=n i x hx;refine⟨λh=>?_,λh=>?_,λh=>?_,λh=>?_,λh=>absurd h r⟩
   ·omega
   ·omega
   ·have := u hk
    omega
   ·omega
  ·obtain⟨I,R,u,J,K⟩ := n i O b
   exact⟨I,λh e he=>s e (Sp.mL b he),λh=>by have:=u h;omega,λh Q=>by have:=J h Q;omega,λh=>by have:=K h;omega⟩
 ·obtain⟨d,M⟩ := Sp.ik hs ((m c).1 P)
  refine⟨d,Sp.mb (λp c C=>?_) d 0 c M⟩;obtain⟨⟨z,a,e,f,v⟩,w⟩:=Sp.fU.1 C;refine Sp.fU.2 ⟨⟨z,?_,e,f,v⟩,(m c).2 w⟩;rw[o,ME]
  ·exact a
  ·rintro rfl
   rw[hx]at a
   cases a
   rw[g]at f
   cases f
theorem Ge {L:List cL}{O:List Os.dP}{dn:Int}{k:Nat}{x y:cL}(h:RX L O dn (λ_=>False))(hd:dn+1<=1099511627776)(hx:L[k]?=some x)(hk:x.kind=1)(hy:one y=true)(h1:y.gen=x.gen)(h2:y.kind=1)(h3:y.cH=x.cH)(h4:y.cF=dn+1)(h5:By (L.set k y)<=8192):RX (L.set k y) O (dn+1) (λ_=>False):=by
 have p:=(Sp.ei.1 h.sp).1;have f:=Sp.gA p hx hy qo;have d:=qP (y:=y) hx;refine⟨Gh h.sp hx hk f (wB hy qo) (.inl ⟨h2,h1,h3⟩),h.os,λo q=>?_,λi m a n r s=>?_,h5,⟨by have:=h.dn.1;omega,by have:=h.dn.1;omega⟩,λm a=>?_⟩
 ·obtain⟨i,z,g,c,j,l⟩ := h.fl o q
  by_cases b:i=k
  ·subst b
   rw[hx]at g
   cases g
   exact⟨i,y,by rw[d,MC rfl],c,qo,h2⟩
  ·exact⟨i,z,by rw[d,ME b];exact g,c,j,l⟩
 ·rw[d]at a
  split at a
  ·rename_i e
   cases a
   subst e;rw[h1];exact h.nd i x hx hk qo id
  ·exact h.nd i m a n r id
 ·obtain⟨i,b⟩ := M1.1 a
  rw[d]at b;split at b
  ·cases b
   omega
  ·have := h.dn.2 m (MG b)
   omega
theorem Jw {L:List cL}{O:List Os.dP}{dn:Int}{k:Nat}{x:cL}(h:RX L O dn (λi=>i=k))(hx:L[k]?=some x)(hk:x.kind=1)(hl:x.cH=0)(hn:¬ Hl O k x.gen):RX (L.set k (gone x.gen)) O dn (λ_=>False):=by
 have d:=(Sp.ei.1 h.sp).1;have g:=ud ((It.cG.1 d).2.2 x (MG hx));have s:=(MN.1 hx).1;have u:=sD d;have v:k≠0:=by
  rintro rfl;have:=Sp.kH d hx;omega
 have j:It.right (L.set k (gone x.gen))=true:=by
  have w:=rv (no:=k) (x:=gone x.gen) d qo qo qo (zI g)
  rwa [Sp.tt hx]at w
 have l:=qP (y:=gone x.gen) hx;refine⟨Gh h.sp hx hk j rfl (.inr ⟨rfl,hl⟩),h.os,λo t=>?_,λi q a c r B=>?_,?_,h.dn.1,λq a=>?_⟩
 ·obtain⟨i,z,m,b,n,p⟩ := h.fl o t
  refine⟨i,z,?_,b,n,p⟩;rw[l,ME]
  ·exact m
  ·rintro rfl
   rw[hx]at m
   cases m
   exact hn ⟨o,t,b,qo⟩
 ·rw[l]at a
  split at a
  ·cases a
   exact absurd (show (0:Int)=1 from c) qd
  ·rename_i hik
   exact h.nd i q a c r hik
 ·have A := uP L k x (gone x.gen) hx
  have e:lk (gone x.gen).runs=0:=rfl;have:=h.F0;omega
 ·obtain⟨i,f⟩ := M1.1 a
  rw[l]at f;split at f
  ·cases f
   exact h.dn.1.1
  ·exact h.dn.2 q (MG f)
theorem qH {L:List cL}{O:List Os.dP}{dn:Int}{q:Nat->Prop}(h:RX L O dn q)(hd:dn+1<=1099511627776):RX L O (dn+1) q:=⟨h.sp,h.os,h.fl,h.nd,h.F0,⟨by have:=h.dn.1;omega,hd⟩,λx a=>by have:=h.dn.2 x a;omega⟩
theorem Hz {L:List cL}{O:List Os.dP}{dn:Int}{k:Nat}(h:RX L O dn (λi=>i=k))(hk:∀ x,L[k]?=some x->x.kind=1->x.cH<=0->Hl O k x.gen):RX L O dn (λ_=>False):=⟨h.sp,h.os,h.fl,λi x a b c _=>by
 by_cases hi:i=k
 ·subst hi
  exact hk x a b c
 ·exact h.nd i x a b c hi,h.F0,h.dn⟩
end Nf
namespace Nf
theorem Bd {L L':List cL}{st:Int}{kt:Nat}{P:eA->Prop}(sp:Sp.cZ L'=true)(Fh:∀ (i)(x),L[i]?=some x->∃ x',L'[i]?=some x'/\JP st (i=kt) P x x')(new:∀ (i)(x'),L.length<=i->L'[i]?=some x'->∃ g k,x'=fresh g k st):Ah L L' st kt P:=by
 refine⟨sp,?_,Fh,new⟩;rcases Ow L'.length L.length with h | h
 ·obtain⟨x',a,_⟩ := Fh L'.length _ (MF h)
  simp at a
 ·exact h
theorem yB {L : List cL}{st : Int}{kt kc kd : Nat}{xc xd y z : cL}{P : eA → Prop}(hne : kc≠kd)(hc : L[kc]?=some xc)(hd : L[kd]?=some xd)(sp : Sp.cZ ((L.set kc y).set kd z)=true)(h1 : JP st (kc=kt) P xc y)(h2 : JP st (kd=kt) P xd z) : Ah L ((L.set kc y).set kd z) st kt P := by
 have c:=Sp.tJ (y:=y) (z:=z) hne hc hd;refine Bd sp (λi x a=>?_) λi f g b=>?_
 ·rw[c]
  by_cases e1:i=kd
  ·subst e1
   rw[hd]at a
   cases a
   exact⟨z,MC rfl,h2⟩
  ·rw[ME e1]
   by_cases e2:i=kc
   ·subst e2
    rw[hc]at a
    cases a
    exact⟨y,MC rfl,h1⟩
   ·rw[ME e2]
    exact⟨x,a,tS x⟩
 ·have d : ((L.set kc y).set kd z)[i]?=none := by
   rw[Ot];simp;omega
  rw[d]at b
  cases b
theorem F9 {L : List cL}{a b kind st : Int}{s : ByteArray}(h : Sp.p6 (Sp.dW Sp.cZ) L a b s kind st=0) : Ah L (Sp.vL (Sp.dW Sp.cZ) L a b s kind st) st 0 (λ_ => False) := by
 obtain⟨l,v,m,g,w,y,d,n,o,z,j,p,q,k⟩:=Sp.oD h;have u:=(MN.1 d).1;refine Bd (Sp.B9 h) (λi x f=>?_) λi A r c=>?_
 ·rw[k]
  by_cases e1:i=l
  ·subst e1
   rw[d]at f
   cases f
   exact⟨_,MC rfl,.inl ⟨rfl,rfl,rfl,λB=>by omega,.inr rfl,.inl (Ng _),λe t=>.inl (Oh _ t)⟩⟩
  ·rw[ME e1]
   by_cases e2:i=m
   ·subst e2
    exact⟨_,MC rfl,.inr (.inr ⟨q x f,g,kind,rfl⟩)⟩
   ·rw[ME e2]
    exact⟨x,f,tS x⟩
 ·rw[k,ME qo]at c
  split at c
  ·cases c
   exact⟨g,kind,rfl⟩
  ·rw[Ot r]at c
   cases c
theorem Gt {L:List cL}{a b c d st:Int}{s:ByteArray}(h:Sp.ng (Sp.dW Sp.cZ) L a b c d s st=0):Ah L (Sp.lK (Sp.dW Sp.cZ) L a b c d s st) st 0 (λ_=>False):=by
 have f:=Sp.Br h;unfold Sp.lK at f |-;rw[MC h]at f |-;unfold Sp.ng at h
 by_cases hl:Sp.ez (Sp.dW Sp.cZ) L a b c d s st=0
 ·obtain⟨⟨x,_⟩,m,j,y,n⟩ := Sp.ku hl
  obtain⟨r,t,z,g,A,u,k,E⟩:=Sp.gL m;obtain⟨v,F,w,i,B,o,C,D,p,-⟩:=Sp.jo n;have l:=Sp.mc p w i;rw[k]at j;rw[k,l,z,w,show ((r:Int)).toNat=r by omega,show ((v:Int)).toNat=v by omega]at f |-;refine yB ?_ i g f (.inl ⟨rfl,rfl,rfl,λG=>by omega,.inr rfl,.inl (Ng _),λe q=>.inl (Oh _ q)⟩) (.inl ⟨rfl,rfl,rfl,λ_=>rfl,.inr rfl,.inl (by show t.cH<=t.cH+1;omega),λe q=>.inl q⟩);rintro rfl;rw[i]at g
  cases g
  exact j o
 ·rw[ME hl]at h
  exact absurd h hl
theorem vj {es:List eA}{nx:Int}{s:ByteArray}{j:Nat}{e:eA}(hf:Fo.cM es nx s=0)(hp:Fo.gy es nx s=j)(hj:es[j]?=some e):e.1=s:=by
 unfold Fo.gy at hp;rw[MC hf]at hp;unfold Fo.ri at hp
 cases hi:es.findIdx? (Fo.called s)with
 | none =>
  rw[hi]at hp;simp at hp
 | some k =>
  rw[hi]at hp;have c:k=j:=by
   simp at hp;omega
  subst c;obtain⟨d,b,_⟩:=N4.1 hi;rw[MF d]at hj
  cases hj
  unfold Fo.called at b;have a:=eq_of_beq b;rw[ND,ND]at a;exact ByteArray.ext (Array.toList_inj.1 a)
theorem pX {st:Int}{q:Prop}{x:cL}{j:Nat}{e:eA}{P:eA->Prop}(hk:x.kind=2)(hj:x.cE[j]?=some e)(hP:P e):JP st q P x (Sp.filled x (x.cE.eraseIdx j) x.next st) :=
 .inl ⟨rfl,rfl,rfl,λb=>by omega,.inr rfl,.inl (Ng _),λz a=>by
  rcases Sp.rY hj z a with h | h
  ·exact .inl h
  ·exact .inr (by rw[h];exact hP)⟩
theorem Bt {L:List cL}{a b st:Int}{s:ByteArray}(h:Sp.vR (Sp.dW Sp.cZ) L a b s st=0):∃ (kt:Nat) (y:cL),Sp.xJ (Sp.dW Sp.cZ) L a b s st=((kt:Int),y.gen)/\(Sp.yQ (Sp.dW Sp.cZ) L a b s st)[kt]?=some y/\y.kind=1/\kt≠0/\Ah L (Sp.yQ (Sp.dW Sp.cZ) L a b s st) st kt (λe=>e.1=s):=by
 have c:=Sp.yL h;unfold Sp.xJ;rw[MC h];unfold Sp.yQ at c |-;rw[MC h]at c |-;unfold Sp.vR at h
 by_cases hl:Sp.fT (Sp.dW Sp.cZ) L st a b s=0
 ·rw[MC hl]at h
  obtain⟨o,M,j,e,kt,p,C,f,D,q,E,r,w,x,z,k,t,d,u,A,F,G,l,v,H,-,I⟩:=Sp.jT eQ hl;rw[z,l]at h;have B:p.kind≠2:=λJ=>by
   rw[MC J]at h;exact absurd h qd
  have g:=At.cG.1 (Sp.m5 H (MG d));unfold At.dN at g;have m:p.kind=1:=qo
  rw[z,l]at c |-;unfold Sp.gd at c |-;rw[v,w,C,k,show ((o:Int)).toNat=o by omega,show ((j:Int)).toNat=j by omega,show ((kt:Int)).toNat=kt by omega]at c |-;have i:o≠kt:=by
   rintro rfl;rw[f]at d
   cases d
   omega
  have n:=vj r w x;refine⟨kt,Sp.linked p (-1) st,?_,?_,m,t,yB i f d c (pX q x n) (.inl ⟨rfl,rfl,rfl,λ_=>rfl,.inr rfl,.inr rfl,λe K=>.inl K⟩)⟩
  ·exact Prod.ext k u.symm
  ·rw[Sp.tJ i f d,MC rfl]
 ·rw[ME hl]at h
  exact absurd h hl
theorem Ef {L : List cL}{a b st : Int}{s : ByteArray}(h : Sp.yN (Sp.dW Sp.cZ) L a b s st=0) : Ah L (Sp.D3 (Sp.dW Sp.cZ) L a b s st) st 0 (λe => e.1=s ∧ ∃ x, L[e.2.2.1.toNat]?=some x ∧ x.kind=2) := by
 have c:=Sp.Av h;unfold Sp.D3 at c |-;rw[MC h]at c |-;unfold Sp.yN at h
 by_cases hl:Sp.fT (Sp.dW Sp.cZ) L st a b s=0
 ·rw[MC hl]at h
  obtain⟨n,G,j,e,f,o,z,g,A,p,B,q,v,k,w,i,C,d,r,y,D,E,t,u,H,-,F⟩:=Sp.jT eQ hl;rw[w,t]at h
  by_cases hk2:o.kind=2
  ·rw[MC hk2]at h
   by_cases hen:o.cE=[]
   ·rw[w]at c |-
    unfold Sp.gd at c |-;rw[u,v,z,i,<-r,show ((n:Int)).toNat=n by omega,show ((j:Int)).toNat=j by omega,show ((f:Int)).toNat=f by omega]at c |-;have l:n≠f:=by
     rintro rfl;rw[g]at d
     cases d
     rw[hen]at k;simp at k
    have m:=vj q v k;exact yB l g d c (pX p k ⟨m,o,by rw[i,show ((f:Int)).toNat=f by omega];exact d,hk2⟩) (.inr (.inl ⟨hk2,hen,rfl⟩))
   ·rw[ME hen]at h
    exact absurd h qd
  ·rw[ME hk2]at h
   exact absurd h qd
 ·rw[ME hl]at h
  exact absurd h hl
theorem BJ {L : List cL}{a b c d st : Int}{s s2 : ByteArray}(h : Sp.yh (Sp.dW Sp.cZ) Sp.l7 L a b s c d s2 st=0) : Ah L (Sp.vK (Sp.dW Sp.cZ) Sp.l7 L a b s c d s2 st) st 0 (λe => e.1=s) := by
 have k:=Sp.yg h;unfold Sp.vK at k |-;rw[MC h]at k |-;unfold Sp.yh at h
 by_cases hl:Sp.fT (Sp.dW Sp.cZ) L st a b s=0
 ·rw[MC hl]at h
  obtain⟨t,g,j,e,kt,xt,M,m,N,u,O,B,F,w,P,Q,R,S,T,G,U,V,W,C,hr,X,Y⟩:=Sp.jT eQ hl;rw[P]at h k |-
  by_cases hm:Sp.iz Sp.l7 L e.2.2.1 c d s2=0
  ·have A := Sp.mF hm
   obtain⟨q,Z,H,n,aa,ab,-,-,ac,-⟩:=Sp.jo A;have E:Sp.gd L a b s st=L.set t (Sp.filled g (g.cE.eraseIdx j) g.next st):=by
    unfold Sp.gd;rw[C,F,M,show ((t:Int)).toNat=t by omega,show ((j:Int)).toNat=j by omega]
   have l:=vj B F w;have r:=qP (y:=Sp.filled g (g.cE.eraseIdx j) g.next st) m;have I:JP st False (λe=>e.1=s) g (Sp.filled g (g.cE.eraseIdx j) g.next st):=pX u w l;obtain⟨o,f⟩:∃ o,(L.set t (Sp.filled g (g.cE.eraseIdx j) g.next st))[q]?=some o:=by
    rw[r];split
    ·exact⟨_,rfl⟩
    ·exact⟨Z,n⟩
   have J:Sp.sZ L a b s st c=o:=by
    unfold Sp.sZ;rw[E,H,show ((q:Int)).toNat=q by omega,f];rfl
   rw[J,E,H,show ((q:Int)).toNat=q by omega]at k |-;have K:=qP (y:=Sp.filled o (o.cE++[(s2,o.next+1,e.2.2)]) (o.next+1) st) f;refine Bd k (λi x p=>?_) λi x' hi v=>?_
   ·rw[K]
    by_cases e1:i=q
    ·rw[MC e1]
     subst e1;refine⟨_,rfl,?_⟩;rw[r]at f;split at f
     ·rename_i e2
      subst e2
      cases f
      rw[m]at p
      cases p
      refine .inl ⟨rfl,rfl,rfl,λr=>by omega,.inr rfl,.inl (Ng _),λz D=>?_⟩;rcases Sp.rY w z D with h | h
      ·exact .inl (Oh _ h)
      ·exact .inr (by rw[h];exact l)
     ·rw[n]at f
      cases f
      rw[n]at p
      cases p
      exact .inl ⟨rfl,rfl,rfl,λr=>by omega,.inr rfl,.inl (Ng _),λz D=>.inl (Oh _ D)⟩
    ·rw[ME e1,r]
     by_cases e2:i=t
     ·subst e2
      rw[m]at p
      cases p
      exact⟨_,MC rfl,pX u w l⟩
     ·rw[ME e2]
      exact⟨x,p,tS x⟩
   ·rw[Ot qt]at v
    cases v
  ·rw[ME hm]at h
   exact absurd h hm
 ·rw[ME hl]at h
  exact absurd h hl
end Nf
end Go.Proofs.YtiifhfmekbhlnaaGreat
