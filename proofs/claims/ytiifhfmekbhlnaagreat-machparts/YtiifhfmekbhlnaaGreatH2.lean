/- Part 2. -/
import Derived.Laws.ResultCell
import Derived.OwnWalk
import Derived.Deep.MidRow
import Derived.Test.YtiifhfmekbhlnaaGreatH1
set_option maxHeartbeats 8000000
set_option maxRecDepth 100000
namespace Go.Proofs.YtiifhfmekbhlnaaGreat
open ChangeShapes WideShapes ChangeAt RowKit Deep It
def It.eW (L:List cL):Int:=if It.right L then 0 else 4
abbrev BH (a b:Int):Obj:=.cells #[.int .i64 a,.int .i64 b] 57
abbrev VH (h:Int × Int):Value:=.agg #[.int .i64 h.1,.int .i64 h.2]
theorem JJ:(Tryz.prog.info? 57).map (λi=>(i.zero,i.size,i.bytes))=some (some (.agg #[.int .i64 0,.int .i64 0]),2,16):=qk
theorem It.nP {L:List Rw}{i:Nat}{x:Rw}(h:L[i]?=some x):(It.pl L)[i]?=some x.i:=by simp[It.pl,h]
theorem It.mW {L:List cL}(h:It.right L=true->False):It.eW L=4:=by
 unfold It.eW;rw[ME h]
theorem du {S : Nat → Prop}(v )(L )(w )(hv : cD S w v L) :
  Calls Tryz.prog 61 #[v] w λe w'=>e=.returned (.int .i64 (It.eW (pl L)))/\Bw w w':=by
 obtain⟨Y,Z,rfl,P,Q⟩:=hv.open;clear hv;unfold maxLen at P;obtain⟨n,H⟩:=qE L.length;rw[H]at P |-;have q:=hH H;have M:=hH Q;clear H Q
 by_cases hr:1<=n/\n<=24
 ·have r : L[0]?=some (L[0]'(by have := q.out;omega)) := MF _;obtain⟨x,a⟩:∃ x,L[0]?=some x:=⟨_,r⟩;clear r;obtain⟨⟨b,p,rfl,hB,I⟩,R⟩:=M.out 0 x a;have N:=I.2.1;simp only[Nat.zero_mul,Nat.add_zero]at N;have C:Hid ((1:Int)<=(n:Int)/\(n:Int)<=24):=⟨qo,qo⟩;have V:(0:Int)<(n:Int):=by omega
  by_cases j:x.i.kind=2
  ·have s : (x.i.kind==2)=true := by simp[j]
   have D:Hid (ql (pl L)=true):=by
    cases L with
    | nil=>simp at a
    | cons y l =>
     simp at a;subst a;exact MT j
   rw[j]at N;generalize x.i.kind=kk at s;clear I R j;go_enter Tryz.func61,Tryz.ntmps61;go_wp2_with fail;refine (dD _ _ _ _ C.out).mono ?_;rintro e w' ⟨rfl,rfl⟩;go_wp2;go_loopw [19] (λi U=>∃ k:Nat,k<=n/\i=.int .i64 k/\(∀ y∈L.take k,one y.i=true)/\Bw w' U) (λi _=>n-(intOf i).toNat)
   case atStart=>exact⟨0,MV _,rfl,by simp,MJ _ _⟩
   case round =>
    obtain⟨k,j,rfl,m,c⟩:=hrel;have g:Hid (∀ y∈L.take k,one y.i=true):=m;clear m;have E:=c.size
    by_cases hlt:k<n
    ·have r:L[k]?=some (L[k]'(by have:=q.out;omega)):=MF _;obtain⟨y,d⟩:∃ y,L[k]?=some y:=⟨_,r⟩;clear r;obtain⟨⟨b',T,J,K,u⟩,A⟩:=M.out k y d
     cases J
     obtain⟨d0,d1,d2,d3,d4,d5,d6,d7⟩:=u.below c K;have F:=hH<|(A.up c);have W:=hH<|It.take_succ d;have G:=hH<|MG d;have O:(k:Int)<(n:Int):=qo
     clear d u A;go_wp2_with fail;refine (Di y _ (F.up (qG _ _))).mono ?_;rintro e w2 ⟨rfl,B⟩;have t:Hid _:=(c.alloc E _).trans (B.mono qt);clear B
     cases ho:one y.i with
     | false =>
      have o:=hH<|It.mW λh=>by
       have:=(It.cG.1 h).2.2 y.i (NI.2 ⟨y,G,rfl⟩);rw[ho]at this
       cases this
      clear ho;go_wp2;go_ret;rw[o.out];exact⟨rfl,t⟩
     | true =>
      have X:Hid _:=ho;clear ho;go_wp2
      go_roundw
      case rel =>
       refine⟨k+1,qo,by go_num,λz f=>?_,t⟩;rw[W.out,Na]at f;rcases f with f | f
       ·exact g z f
       ·simp at f;subst f;exact X
      case measure=>simp[intOf];omega
    ·obtain rfl:k=n:=qo
     have o:=hH<|show It.eW (pl L)=0 by
      unfold It.eW;rw[MC];refine It.cG.2 ⟨?_,D,λz f=>?_⟩
      ·have:=q.out;simp only[pl,List.length_map];omega
      ·obtain⟨y,hy,rfl⟩:=NI.1 f;refine g y ?_;rw[<-q.out,Ns];exact hy
     go_wp2;go_ret;rw[o.out];exact⟨rfl,c⟩
  ·have s:(x.i.kind==2)=false:=by simp[j]
   have o:Hid (It.eW (pl L)=4):=It.mW λh=>by
    have:=(It.cG.1 h).2.1
    cases L with
    | nil=>simp at a
    | cons y l =>
     simp at a;subst a;exact j (of_decide_eq_true this)
   clear I R j;go_enter Tryz.func61,Tryz.ntmps61;go_wp2_with fail;refine (dD _ _ _ _ C).mono ?_;rintro e w' ⟨rfl,rfl⟩;go_wp2;go_ret;rw[o.out];exact⟨rfl,MJ _ _⟩
 ·have o:Hid (It.eW (pl L)=4):=It.mW λh=>by
   have:=(It.cG.1 h).1;simp only[pl,List.length_map]at this;have:=q.out;omega
  have C:Hid (¬ ((1:Int)<=(n:Int)/\(n:Int)<=24)):=show ¬ _ by omega
  clear hr;go_enter Tryz.func61,Tryz.ntmps61;go_wp2_with fail;refine (ix _ _ _ _ C).mono ?_;rintro e w' ⟨rfl,rfl⟩;go_wp2;go_ret;rw[o.out];exact⟨rfl,MJ _ _⟩
theorem y6 (w)(a b)(B)(h:w.1[B]?=some (BH a b)):ey EH w (.slice (some ⟨B,0,none⟩) 1 1) [(a,b)]:=by
 refine .inr ⟨B,0,1,rfl,trivial,(qL h),qs,by simp,by simp[maxLen],λj u d=>?_⟩;have c:[Value.int .i64 a,.int .i64 b][j]?=some u:=d
 match j,c with
 | 0,c=>simp[World.cell?,h]at c |-;exact c
 | 1,c=>simp[World.cell?,h]at c |-;exact c
theorem uW {S:Nat->Prop}(v)(L:List Rw)(w:World)(hv:cD S w v L)(hL:L.length<=1466015503701) :
  Calls Tryz.prog 105 #[v] w λe w'=>∃ u,e=.returned u/\ey EH w' u (used (pl L))/\Bw w w':=by
 obtain⟨i0,H,I,J,K⟩:=NQ JJ;obtain⟨ao,ab,rfl,X,Y⟩:=hv.open;clear hv;unfold maxLen at X;obtain⟨n,M⟩:=qE L.length;rw[M]at X hL |-;have R:Hid (L.length=n):=M;have Z:Hid (∀ i x,L[i]?=some x->(∃ b m,ao=some ⟨b,m,none⟩/\b<w.1.size/\eight w b (m+i*8) x)/\Good S w x):=Y;clear M Y;go_enter Tryz.func105,Tryz.ntmps105;go_wp2;go_loopw [3,8] (λu i wr=>∃ k:Nat,k<=n/\i=.int .i64 k/\Row EH wr w.1.size 57 u (used ((pl L).take k))/\Hid (Bw w wr)) (λ_ i _=>n-(intOf i).toNat)
 case atStart=>exact⟨0,MV _,rfl,Row.nil _ _ _ _,MJ _ _⟩
 case round =>
  obtain⟨k,hk,rfl,a,o⟩:=hrel
  by_cases hlt:k<n
  ·have T:L[k]?=some (L[k]'(by have:=R.out;omega)):=MF _;obtain⟨y,l⟩:∃ y,L[k]?=some y:=⟨_,T⟩;clear T;obtain⟨⟨b,m,rfl,N,s⟩,_⟩:=Z.out k y l;obtain⟨d0,d1,d2,d3,d4,d5,d6,d7⟩:=s.below o N;have g:=It.nH (It.nP l);have f:=It.ln ((pl L).take k);rw[M5]at f;obtain⟨C,D,p⟩:=a.slice;generalize used ((pl L).take k)=O at a p g f;obtain⟨q,P⟩:=qE O.length;have U:=hH P;rw[P]at p f;have aa:q<=k:=qo
   subst p;have V:(k:Int)<(n:Int):=qo
   clear l s P f
   by_cases hkd:y.i.kind=0
   ·rw[MC hkd,OD]at g;have r:(y.i.kind==0)=true:=by simp[hkd]
    have j:=hH g;have B:=hH a;clear hkd g a;go_wp2
    go_roundw
    case rel=>exact⟨k+1,qo,by go_num,by rw[j.out];exact B.still (MU _ _ _),o.alloc o.size _⟩
    case measure=>simp[intOf];omega
   ·rw[ME hkd]at g;have r:(y.i.kind==0)=false:=by simp[hkd]
    have j:=hH g;have B:=hH a;have E:=o.out.size;obtain⟨Q,t⟩:=qF (Obj.cells #[.int .i64 y.i.gen,.int .i64 y.i.kind,.int .i64 y.i.cH,.int .i64 y.i.size,.int .i64 y.i.cF,.slice y.rp y.rn y.rc,.slice y.ep y.en y.ec,.int .i64 y.i.next] 86);have W:Hid (ey EH ((wr.alloc Q).alloc (BH k y.i.gen)) (.slice (some ⟨wr.1.size+1,0,none⟩) 1 1) [((k:Int),y.i.gen)]):=by
     refine y6 _ _ _ _ ?_;have:=MD (wr.alloc Q) (BH k y.i.gen);rw[show (wr.alloc Q).1.size=wr.1.size+1 by simp]at this;exact this
    rw[t]at W;clear hkd g a t
    go_wp2_with (at_builtin;refine eF _ rfl _ _ 119 rfl EH (λ_=>True) w.1.size 57 i0 (.agg #[.int .i64 0,.int .i64 0]) 16 Tryz.underlying119 H I J K rfl (.slice C q D) O rfl ((B.still (MU _ _ _)).still (MU _ _ _)) _ [((k:Int),y.i.gen)] rfl W (by have:=U.out;unfold maxLen;simp;omega) (by have:=U.out;simp;omega) qt ?_;intro v7 w7 c z A)
    have F:=hH<|((o.alloc E _).alloc qt _).grown z qt (λi H=>(B.lt i H).1);have G:Hid _:=c;clear c z A;go_wp2
    go_roundw
    case rel=>exact⟨k+1,qo,by go_num,by rw[j.out];exact G,F⟩
    case measure=>simp[intOf];omega
  ·obtain rfl:k=n:=qo
   have HE:Hid (ey EH wr u3 (used (pl L))/\Bw w wr):=by
    have h:=a.at.wide;rw[MY (by have:=R.out;simp only[pl,List.length_map];omega)]at h;exact⟨h,o⟩
   obtain⟨C,D,p⟩:=a.slice;generalize (used ((pl L).take k)).length=q at p;subst p;clear a;go_wp2;go_ret;exact⟨_,rfl,HE⟩
theorem oz {S:Nat->Prop}(v:Value)(l:List (Int × Int))(a b:Int)(w:World)(hv:At EH S w v l) :
  Calls Tryz.prog 109 #[v,.agg #[.int .i64 a,.int .i64 b]] w λe w'=>∃ r:Int,e=.returned (.int .i64 r)/\decide (0<=r)=decide ((a,b)∈l)/\Bw w w':=by
 obtain⟨ao,aa,rfl,R,T⟩:=hv.open;clear hv;unfold maxLen at R;obtain⟨n,J⟩:=qE l.length;rw[J]at R |-;have M:Hid (l.length=n):=J;have U:Hid (∀ i x,l[i]?=some x->∃ b f,ao=some ⟨b,f,none⟩/\S b/\b<w.1.size/\∀ k u,(EH.cells x)[k]?=some u->w.cell? ⟨b,f+(i*2+k),none⟩=some u):=T;have d:Hid (Bw w (w.alloc (BH a b))):=qG _ _;obtain⟨W,o⟩:=qF (w.alloc (BH a b));have V:W.cell? ⟨w.1.size,0,none⟩=some (.int .i64 a):=by rw[o];simp
 have X:W.cell? ⟨w.1.size,1,none⟩=some (.int .i64 b):=by rw[o];simp
 have q:w.1.size<W.1.size:=by rw[o];simp
 rw[<-o]at d;clear J T;go_enter Tryz.func109,Tryz.ntmps109;go_wp2;rw[<-o];clear o;go_loopw [8] (λi wr=>∃ k:Nat,k<=n/\i=.int .i64 k/\(a,b) ∉ l.take k/\Bw W wr) (λi _=>n-(intOf i).toNat)
 case atStart=>exact⟨0,MV _,rfl,by simp,MJ _ _⟩
 case round =>
  obtain⟨k,hk,rfl,z,c⟩:=hrel;have s:Hid ((a,b) ∉ l.take k):=z;clear z;rw[<-c.cell (p:=⟨w.1.size,0,none⟩) q]at V;rw[<-c.cell (p:=⟨w.1.size,1,none⟩) q]at X
  by_cases hlt:k<n
  ·have N:l[k]?=some (l[k]'(by have:=M.out;omega)):=MF _;obtain⟨y,g⟩:∃ y,l[k]?=some y:=⟨_,N⟩;clear N;obtain⟨A,f,rfl,_,K,L⟩:=U.out k y g;have j:A<W.1.size:=qo
   have O:=L 0 _ rfl;have P:=L 1 _ rfl;rw[<-d.out.cell (p:=⟨A,f+(k*2+0),none⟩) K,<-c.cell (p:=⟨A,f+(k*2+0),none⟩) j,OJ]at O;rw[<-d.out.cell (p:=⟨A,f+(k*2+1),none⟩) K,<-c.cell (p:=⟨A,f+(k*2+1),none⟩) j,<-NC]at P;have Y:Hid _:=It.take_succ g;have F:Hid _:=MG g;have Q:(k:Int)<(n:Int):=qo
   have G:(0:Int)<=(k:Int):=qo
   obtain⟨B,D⟩:=y;simp only at O P;clear g L K j
   by_cases h:a=B/\b=D
   ·have H:=hH<|show decide ((0:Int)<=(k:Int))=decide ((a,b)∈l) by
     rw[MT G,MT (show (a,b)∈l by rw[h.1,h.2];exact F)]
    obtain⟨rfl,rfl⟩:=h;go_wp2
    go_quiet (fail)
    go_wp2;go_ret;exact⟨_,rfl,H,Ol (d.trans (c.mono d.size)) _⟩
   ·have t:=hH<|show (a,b) ∉ l.take (k+1) by
     rw[Y.out,Na];rintro (E | E)
     ·exact s E
     ·simp at E;exact h E
    have I:(a==B&&b==D)=false:=by simpa using h
    have m:(a==B)=true->(b==D)=false:=λC=>by simpa [C]using I
    by_cases C:a=B
    ·subst C;have Z:=m qs;clear h I m;go_wp2
     go_quiet (fail)
     go_wp2
     go_roundw
     case rel=>exact⟨k+1,qo,by go_num,t,Ol c _⟩
     case measure=>simp[intOf];omega
    ·have Z:(a==B)=false:=by simp[C]
     clear h I m C;go_wp2
     go_quiet (fail)
     go_wp2
     go_roundw
     case rel=>exact⟨k+1,qo,by go_num,t,Ol c _⟩
     case measure=>simp[intOf];omega
  ·obtain rfl:k=n:=qo
   have H:Hid (decide ((0:Int)<=-1)=decide ((a,b)∈l)):=by
    have:=s.out;rw[MY (by have:=M.out;omega)]at this;show _=_;rw[MO this];rfl
   go_wp2;go_ret;exact⟨_,rfl,H,d.trans (c.mono d.size)⟩
theorem mJ {S:Nat->Prop}(v:Value)(l:List (Int × Int))(a b:Int)(w:World)(hv:At EH S w v l) :
  Calls Tryz.prog 70 #[v,.agg #[.int .i64 a,.int .i64 b]] w λe w'=>e=.returned (.bool (decide ((a,b)∈l)))/\Bw w w':=by
 have f:Hid (At EH S (w.alloc (BH a b)) v l):=hv.up (qG _ _);obtain⟨k,i,rfl,m,j⟩:=hv.open;clear hv j;go_enter Tryz.func70,Tryz.ntmps70;go_wp2_with fail;refine (oz _ l a b _ f).mono ?_;rintro e n ⟨r,rfl,c,d⟩;have g:Hid _:=(qG _ _).trans (d.mono qs);have h:Hid _:=c;clear c d;go_wp2;go_ret;refine⟨?_,g⟩;rw[<-h.out];rfl
theorem cD.drew {S:Nat->Prop}{w:World}{v:Value}{L:List Rw}(h:cD S w v L):cD S w.drew v L:=h
theorem nZ {w w':World}{b o1 o2:Nat}{x y:Value}(h:w.cell? ⟨b,o1,none⟩=some x/\w.cell? ⟨b,o2,none⟩=some y)(hb:Bw w w'):w'.cell? ⟨b,o1,none⟩=some x/\w'.cell? ⟨b,o2,none⟩=some y :=
 ⟨(hb.cell (p:=⟨b,o1,none⟩) (Nk _ _ h.1)).trans h.1,(hb.cell (p:=⟨b,o2,none⟩) (Nk _ _ h.2)).trans h.2⟩
theorem dU {S:Nat->Prop}(v:Value)(L:List Rw)(a b:Int)(w:World)(hv:cD S w v L) :
  Calls Tryz.prog 177 #[v,.agg #[.int .i64 a,.int .i64 b]] w λe w'=>e=.returned (.int .i64 (cM (pl L) a b))/\Bw w w':=by
 have g:Hid (Bw w (w.alloc (BH a b))):=qG _ _;obtain⟨W,k⟩:=qF (w.alloc (BH a b));have A:W.cell? ⟨w.1.size,0,none⟩=some (.int .i64 a):=by rw[k];simp
 have B:W.cell? ⟨w.1.size,1,none⟩=some (.int .i64 b):=by rw[k];simp
 have E:w.1.size<W.1.size:=by rw[k];simp
 rw[<-k]at g;have l:=hH<|hv.up g;obtain⟨D,s,rfl,_,_⟩:=hv.open;clear hv
 by_cases hr:It.right (pl L)=true
 ·have t:Hid (It.eW (pl L)=0):=MC hr
  have C:Hid (L.length<=1466015503701):=by
   have:=(It.cG.1 hr).1;simp only[pl,List.length_map]at this;show L.length<=_;omega
  have m:=hH<|show cM (pl L) a b=if decide ((a,b)∈used (pl L))=true then 0 else 401 by
   unfold cM;rw[MC hr];simp only[decide_eq_true_eq,It.kW]
  cases hd:decide ((a,b)∈used (pl L))with
  | true =>
   have u:=hH hd;have h:=hH<|show cM (pl L) a b=0 by rw[m.out,hd];rfl
   rw[h.out];clear m h hr hd;go_enter Tryz.func177,Tryz.ntmps177;go_wp2_with fail;rw[<-k];refine (du _ L _ l).mono ?_;rintro e q ⟨rfl,d⟩;rw[t.out];have f:=qJ g d;have n:=hH<|l.out.up d;have o:Hid _:=nZ ⟨A,B⟩ d;clear d k l;go_wp2_with fail
   go_region_held3 (λw'=>w'.cell? ⟨w.1.size,0,none⟩=some (.int .i64 a)/\w'.cell? ⟨w.1.size,1,none⟩=some (.int .i64 b)) (first | exact o | exact nZ qa qa) (first
    | (go_at_call 105;refine (uW (S:=S) _ L _ n.drew C).mono ?_;rintro e y ⟨F,rfl,i,c⟩)
    | (go_at_call 70;refine (mJ _ (used (pl L)) a b _ i).mono ?_;rintro e z ⟨rfl,j⟩;rw[u.out]))
   have p:Hid (Bw w z):=by
    have x:Bw q y:=⟨c.os,c.tape,c.output,c.size,c.block⟩;have r:=f.out.trans (x.mono f.size);exact r.trans (j.mono r.size)
   clear c j i;go_wp2;go_ret;exact⟨rfl,p⟩
  | false =>
   have u:Hid _:=hd;have h:=hH<|show cM (pl L) a b=401 by rw[m.out,hd];rfl
   rw[h.out];clear m h hr hd;go_enter Tryz.func177,Tryz.ntmps177;go_wp2_with fail;rw[<-k];refine (du _ L _ l).mono ?_;rintro e q ⟨rfl,d⟩;rw[t.out];have f:=qJ g d;have n:=hH<|l.out.up d;have o:Hid _:=nZ ⟨A,B⟩ d;clear d k l;go_wp2_with fail
   go_region_held3 (λw'=>w'.cell? ⟨w.1.size,0,none⟩=some (.int .i64 a)/\w'.cell? ⟨w.1.size,1,none⟩=some (.int .i64 b)) (first | exact o | exact nZ qa qa) (first
    | (go_at_call 105;refine (uW (S:=S) _ L _ n.drew C).mono ?_;rintro e y ⟨F,rfl,i,c⟩)
    | (go_at_call 70;refine (mJ _ (used (pl L)) a b _ i).mono ?_;rintro e z ⟨rfl,j⟩;rw[u.out]))
   have p:Hid (Bw w z):=by
    have x:Bw q y:=⟨c.os,c.tape,c.output,c.size,c.block⟩;have r:=f.out.trans (x.mono f.size);exact r.trans (j.mono r.size)
   clear c j i;go_wp2;go_ret;exact⟨rfl,p⟩
 ·have t:Hid (It.eW (pl L)=4):=ME hr
  have m:Hid (cM (pl L) a b=4):=ME hr
  rw[m.out];clear m hr;go_enter Tryz.func177,Tryz.ntmps177;go_wp2_with fail;rw[<-k];refine (du _ L _ l).mono ?_;rintro e q ⟨rfl,d⟩;rw[t.out];have f:=qJ g d;clear d k;go_wp2;go_ret;exact⟨rfl,f⟩
theorem KQ:(Tryz.prog.info? 114).map (λi=>(i.zero,i.size,i.bytes))=some (some (.agg #[.int .i64 0,.string ⟨#[]⟩]),2,24):=qk
theorem Ik:(Tryz.prog.info? 116).map (λi=>(i.zero,i.size,i.bytes))=some (some (.agg #[.string ⟨#[]⟩,.int .i64 0,.int .i64 0,.int .i64 0]),4,40):=qk
theorem KU:(Tryz.prog.info? 86).map (λi=>(i.zero,i.size,i.bytes))=some (some (.agg #[.int .i64 0,.int .i64 0,.int .i64 0,.int .i64 0,.int .i64 0,.slice none 0 0,.slice none 0 0,.int .i64 0]),8,96):=qk
theorem cN {fn:Func}{p:Tmp}{ty:TypeId}(h:fn.results=#[.cell p ty])(tmps)(P)(w) :
    (results fn tmps).run P w=((asAddr (tmps.getD p undef)).run P w).andThen λa w₁=>(loadVar ty a).run P w₁:=by
  simp only[results,h];simp[Sem.run_bind,Result.andThen]
theorem eB {fn:Func}{p t u:Tmp}{ty:TypeId}(h:fn.results=#[.tmp t,.cell p ty,.tmp u])(tmps)(P)(w) :
    (results fn tmps).run P w=((asAddr (tmps.getD p undef)).run P w).andThen λa w₁=>((loadVar ty a).run P w₁).andThen λv w₂=>.ok (.tuple #[tmps.getD t undef,v,tmps.getD u undef]) w₂:=by
  simp only[results,h];simp[Sem.run_bind,Result.andThen]
theorem At.setCell {α:Type}{E:fY α}{S:Nat->Prop}{w:World}{v:Value}{l:List α}(h:At E S w v l){p:Addr}(hp:¬ S p.block)(u):At E S (w.setCell p u) v l :=
  h.gJ (by simp[World.setCell]) λb a _=>⟨MM _ _ _ _ (λe=>hp (e ▸ a)),a⟩
abbrev B8 (a b c d e:Int) (x y:Value) (f:Int):Obj:=.cells #[.int .i64 a,.int .i64 b,.int .i64 c,.int .i64 d,.int .i64 e,x,y,.int .i64 f] 86
abbrev BZ:Obj:=B8 0 0 0 0 0 (.slice none 0 0) (.slice none 0 0) 0
theorem dV {w:World}{A:Nat}{a b c d e f:Int}{x y:Value}(h:w.1[A]?=some (B8 a b c d e x y f)) :
    (w.cell? ⟨A,0,none⟩=some (.int .i64 a)/\w.cell? ⟨A,1,none⟩=some (.int .i64 b)/\w.cell? ⟨A,2,none⟩=some (.int .i64 c)/\w.cell? ⟨A,3,none⟩=some (.int .i64 d)/\w.cell? ⟨A,4,none⟩=some (.int .i64 e)/\w.cell? ⟨A,5,none⟩=some x/\w.cell? ⟨A,6,none⟩=some y/\w.cell? ⟨A,7,none⟩=some (.int .i64 f))/\∀ j,w.frozen? ⟨A,j,none⟩=false:=by
  refine⟨⟨?_,?_,?_,?_,?_,?_,?_,?_⟩,λj=>?_⟩ <;> simp[World.cell?,World.frozen?,h]
theorem Ma {w:World}{A:Nat}{a b c d e f:Int}{x y:Value}(h:w.1[A]?=some (B8 a b c d e x y f))(u):(w.setCell ⟨A,5,none⟩ u).1[A]?=some (B8 a b c d e u y f):=by
  rw[setCell_eq_setRow w A 5 _ _ _ u h,O1 w A _ _ _ _ h];rfl
theorem Jb {w w7:World} {g k l s t nx:Int} {rp ep:Option Addr} {rn rc en ec:Nat} {rs:List (Int × ByteArray)} {es:List (ByteArray × Int × Int × Int)} {v7:Value}
    (hrow:Row ER w7 (w.heap.size+2) 114 v7 ([]++rs)) (hg7:((w.alloc (B8 g k l s t (.slice rp rn rc) (.slice ep en ec) nx)).alloc BZ).grownBy w7 none)
    (hAW:((w.alloc (B8 g k l s t (.slice rp rn rc) (.slice ep en ec) nx)).alloc BZ).heap[w.heap.size]?=some (B8 g k l s t (.slice rp rn rc) (.slice ep en ec) nx)/\((w.alloc (B8 g k l s t (.slice rp rn rc) (.slice ep en ec) nx)).alloc BZ).heap[w.heap.size+1]?=some BZ)
    (hB:Bw w ((w.alloc (B8 g k l s t (.slice rp rn rc) (.slice ep en ec) nx)).alloc BZ)) (hE:At EE (λb=>b<w.heap.size) ((w.alloc (B8 g k l s t (.slice rp rn rc) (.slice ep en ec) nx)).alloc BZ) (.slice ep en ec) es) :
    ∃ pu cu, v7=.slice pu rs.length cu ∧ Hid (w7.heap[w.heap.size]?=some (B8 g k l s t (.slice rp rn rc) (.slice ep en ec) nx) ∧ w7.heap[w.heap.size+1]?=some BZ) ∧ Hid (Bw w w7) ∧
      Hid (At EE (λb=>b<w.heap.size) (w7.setCell ⟨w.heap.size,5,none⟩ (.slice pu rs.length cu)) (.slice ep en ec) es)/\w.heap.size+2<=w7.heap.size/\Hid (Row ER w7 (w.heap.size+2) 114 (.slice pu rs.length cu) rs):=by
  rw[Nt]at hrow;obtain⟨pu,cu,rfl⟩:=hrow.slice;exact⟨pu,cu,rfl,⟨(hg7.block _ (by simp;omega) (by simp)).trans hAW.1,(hg7.block _ (by simp) (by simp)).trans hAW.2⟩,hB.trans (dR hg7 (by simp;omega)),
    (hE.grown hg7 (by simp)).setCell (by simp) _,by have:=hg7.size;simp at this;omega,hrow⟩
theorem JH {w w7 w8:World}{g k l s t nx:Int}{rp ep:Option Addr}{rn rc en ec:Nat}{rs:List (Int × ByteArray)}{es:List (ByteArray × Int × Int × Int)}{u v8:Value}(hrow:Row EE w8 (w.1.size+2) 116 v8 ([]++es))(hg8:(w7.setCell ⟨w.1.size,5,none⟩ u).grownBy w8 none)(hH:w7.1[w.1.size]?=some (B8 g k l s t (.slice rp rn rc) (.slice ep en ec) nx)/\w7.1[w.1.size+1]?=some BZ)(hB:Bw w w7)(hR:Row ER w7 (w.1.size+2) 114 u rs)(hs:w.1.size+2<=w7.1.size) :
    ∃ pe ce, v8=.slice pe es.length ce ∧ Hid (w8.1[w.1.size]?=some (B8 g k l s t u (.slice ep en ec) nx) ∧ w8.1[w.1.size+1]?=some BZ) ∧ Hid (Bw w w8) ∧
      Hid (At ER (λb=>w.1.size+2<=b) w8 u rs)/\Hid (At EE (λb=>w.1.size+2<=b) w8 (.slice pe es.length ce) es)/\Hid ((w8.setCell ⟨w.1.size,6,none⟩ (.slice pe es.length ce)).1[w.1.size+1]?=some BZ):=by
  rw[Nt]at hrow;obtain⟨pe,ce,rfl⟩:=hrow.slice;have c:(w7.setCell ⟨w.1.size,5,none⟩ u).1.size=w7.1.size:=by simp[World.setCell]
  have a:=(hg8.block _ qo qs).trans ((MM _ _ _ _ qs).trans hH.2);exact⟨pe,ce,rfl,⟨(hg8.block _ qo qs).trans (Ma hH.1 _),a⟩,(hB.setCell (p:=⟨w.1.size,5,none⟩) qn _).trans (dR hg8 qo),
    (hR.at.setCell qs _).grown hg8 qs,hrow.at,(MM _ _ _ _ qs).trans a⟩
theorem yy {S:Nat->Prop} (x:Rw) (w:World) (h:Good S w x) :
    Calls Tryz.prog 178 #[VI x] w λe w'=>∃ x':Rw,e=.returned (VI x')/\x'.i=x.i/\Good (λb=>w.heap.size<=b) w' x'/\Bw w w':=by
  obtain⟨i0,hi,N,O,P⟩:=NQ KQ;obtain⟨j0,hj,Q,R,T⟩:=NQ Ik;obtain⟨hr,he,ho⟩:=h;have z:Hid (LB x.i):=ho;obtain⟨A,hA⟩:=qF w.heap.size;have r:At ER (λb=>b<A) w (.slice x.rp x.rn x.rc) x.i.runs:=hr.imp λb _ X=>by omega
  have u:At EE (λb=>b<A) w (.slice x.ep x.en x.ec) x.i.cE:=he.imp λb _ X=>by omega
  obtain⟨⟨g,k,l,s,t,C,D,d⟩,f,j,m,n,o,p⟩:=x;simp only at z r u |-;subst hA;have M:Hid (Bw w ((w.alloc (B8 g k l s t (.slice f j m) (.slice n o p) d)).alloc BZ)):=(qG _ _).alloc (by simp) _;have B:Hid (((w.alloc (B8 g k l s t (.slice f j m) (.slice n o p) d)).alloc BZ).heap[w.heap.size]?=some (B8 g k l s t (.slice f j m) (.slice n o p) d)/\((w.alloc (B8 g k l s t (.slice f j m) (.slice n o p) d)).alloc BZ).heap[w.heap.size+1]?=some BZ):=by
    refine⟨?_,?_⟩
    · rw[ML _ _ _ (by simp)]
      exact MD _ _
    · have := MD (w.alloc (B8 g k l s t (.slice f j m) (.slice n o p) d)) BZ
      rwa [show (w.alloc (B8 g k l s t (.slice f j m) (.slice n o p) d)).heap.size=w.heap.size+1 by simp]at this
  have Y:Hid (At ER (λb=>b<w.heap.size) ((w.alloc (B8 g k l s t (.slice f j m) (.slice n o p) d)).alloc BZ) (.slice f j m) C):=r.up M.out;have Z:Hid (At EE (λb=>b<w.heap.size) ((w.alloc (B8 g k l s t (.slice f j m) (.slice n o p) d)).alloc BZ) (.slice n o p) D):=u.up M.out;clear hr he ho r u;go_enter Tryz.func178,Tryz.ntmps178
  go_wp2_with (first
    | (at_builtin
       refine eF _ rfl _ _ 84 rfl ER (λb=>b<w.heap.size) (w.heap.size+2) 114 i0 (.agg #[.int .i64 0,.string ⟨#[]⟩]) 24 Tryz.underlying84 hi N O P rfl _ [] rfl (Row.nil _ _ _ _) _ C rfl Y.out (by have:=z.out.2.1;simp only at this;unfold maxLen;simp;omega) (by have:=z.out.2.1;simp only at this;simp;omega) (by simp) ?_;intro v7 w7 a E F;obtain⟨pu,cu,rfl,y,G,H,I,J⟩:=Jb a E B.out M.out Z.out;clear a E F Y Z M B;obtain⟨q0,q1,q2,q3,q4,q5,q6,q7⟩:=(dV y.out.1).1;have qf:=(dV y.out.1).2 5)
    | (at_builtin
       refine eF _ rfl _ _ 60 rfl EE (λb=>b<w.heap.size) (w.heap.size+2) 116 j0 (.agg #[.string ⟨#[]⟩,.int .i64 0,.int .i64 0,.int .i64 0]) 40 Tryz.underlying60 hj Q R T rfl _ [] rfl (Row.nil _ _ _ _) _ D rfl H.out (by have:=z.out.2.2;simp only at this;unfold maxLen;simp;omega) (by have:=z.out.2.2;simp only at this;simp;omega) (by simp;omega) ?_;intro v8 w8 c K L;obtain⟨pe,ce,rfl,q,U,V,W,aa⟩:=JH c K y.out G.out J.out I;clear c K L J H G I q0 q1 q2 q3 q4 q5 q6 q7 qf;obtain⟨q0,q1,q2,q3,q4,q5,q6,q7⟩:=(dV q.out.1).1;have qf:=(dV q.out.1).2 6;obtain⟨z0,z1,z2,z3,z4,z5,z6,z7⟩:=(dV q.out.2).1;have zf:=(dV q.out.2).2))
  (try simp only[Exit.inBlock,Exit.then])
  refine MK (v:=.agg #[.int .i64 g,.int .i64 k,.int .i64 l,.int .i64 s,.int .i64 t,.slice pu C.length cu,.slice pe D.length ce,.int .i64 d]) ?_ rfl ⟨⟨⟨g,k,l,s,t,C,D,d⟩,pu,C.length,cu,pe,D.length,ce⟩,rfl,rfl,⟨?_,?_,z.out⟩,?_⟩
  · rw[cN rfl]
    go_simp
  · refine At.imp (S := λb => w.heap.size+2 ≤ b) ?_ (λb X _ => by omega)
    repeat (refine At.setCell ?_ (by simp) _)
    exact V.out
  · refine At.imp (S := λb => w.heap.size+2 ≤ b) ?_ (λb X _ => by omega)
    repeat (refine At.setCell ?_ (by simp) _)
    exact W.out
  · repeat (refine MP ?_ (by simp) _)
    exact U.out
theorem D8 (n):madeCells #[.int .i64 0,.int .i64 0,.int .i64 0,.int .i64 0,.int .i64 0,.slice none 0 0,.slice none 0 0,.int .i64 0] (n*8)=(EI.flat (List.replicate n gQ)).toArray:=by
 apply Array.ext
 ·rw[size_madeCells];simp[EI.eh];rfl
 ·intro j f h;rw[size_madeCells]at f;have c:j / 8<n:=qo
  have d:(List.replicate n gQ)[j / 8]?=some gQ:=by simp[c]
  have b:j % 8<8:=Nat.mod_lt _ (by omega);have a:∀ u,(EI.cells gQ)[j % 8]?=some u->(EI.flat (List.replicate n gQ)).toArray[j]=u:=λu g=>by
   have:=EI.lD _ _ _ d (j % 8) u g;rw[show j / 8*EI.sz+j % 8=j from by show j / 8*8+j % 8=j;omega]at this;rw[<-Option.some_inj,<-this];simp
  simp only[madeCells,Array.getElem_map,Array.getElem_range];generalize j % 8=q at b a |-
  match q,b with
  | 0,_=>exact (a _ rfl).symm
  | 1,_=>exact (a _ rfl).symm
  | 2,_=>exact (a _ rfl).symm
  | 3,_=>exact (a _ rfl).symm
  | 4,_=>exact (a _ rfl).symm
  | 5,_=>exact (a _ rfl).symm
  | 6,_=>exact (a _ rfl).symm
  | 7,_=>exact (a _ rfl).symm
def Full (w:World) (g:Nat) (R:List Rw):Prop:=w.1[g]?=some (.cells (EI.flat R).toArray 86 (0,0))
theorem sV {P:Program}(w:World){ops:Array Oper}{rest:List Oper}{o:Oper}{a:Act}{Q:Exit->Act->World->Prop}(hg:o.guard=none)(l c:Operand)(t:TypeId)(hop:o.op=Op.makeSlice t l c)(i:TypeInfo)(h1:P.underlying t=some (.slice 86))(h2:P.info? 86=some i)(h3:i.zero=some (.agg #[.int .i64 0,.int .i64 0,.int .i64 0,.int .i64 0,.int .i64 0,.slice none 0 0,.slice none 0 0,.int .i64 0]))(h4:i.size=8)(h5:i.bytes=96)(L C:Int)(n:Nat)(hl:a.eval l=.int .i64 L)(hc:a.eval c=.int .i64 C)(hL:L=(n:Int))(hC:C=(n:Int))(hn:n<=25)(hK:∀ w',Full w' w.1.size (List.replicate n gQ)->w.grownBy w' none->wpList P ops Q rest (a.put o.dst (.slice (some ⟨w.1.size,0,none⟩) n n)) w') :
  wpList P ops Q (o::rest) a w:=by
 refine OF hg λK d=>?_
 have b:=run_make (P:=P) w t _ i _ h1 h2 h3 .i64 .i64 n n (by omega) (Ng _) (by rw[h5];omega) (by omega);simp only[Int.toNat_natCast,h4]at b;rw[show (Value.agg #[Value.int .i64 0,.int .i64 0,.int .i64 0,.int .i64 0,.int .i64 0,.slice none 0 0,.slice none 0 0,.int .i64 0]).cells=#[Value.int .i64 0,.int .i64 0,.int .i64 0,.int .i64 0,.int .i64 0,.slice none 0 0,.slice none 0 0,.int .i64 0] from rfl,D8]at b;subst hL;subst hC;unfold Oper.wp;simp[execOp,hop,hl,hc,b,Result.andThen];exact d _ _ (hK _ (MD _ _) (MU _ _ _))
theorem tg {P:Program}(w){ops:Array Oper}{rest:List Oper}{o:Oper}{a:Act}{Q:Exit->Act->World->Prop}(hgd:o.guard=none)(d s:Operand)(t:TypeId)(ho:o.op=.call { callee:=.builtin .copy,args:=#[d,s],argTypes:=#[t,t] })(i:TypeInfo)(h1:P.underlying t=some (.slice 86))(h2:P.info? 86=some i)(h4:i.size=8)(g n c)(hd:a.eval d=.slice (some ⟨g,0,none⟩) n c)(v)(hs:a.eval s=v)(S:Nat->Prop)(L R:List Rw)(hL:At EI S w v L)(hR:Full w g R)(hlen:R.length=n)(hle:L.length<=n)(h:∀ w' m,Full w' g (L++R.drop L.length)->w.grownBy w' (some g)->wpList P ops Q rest (a.put o.dst (goInt m)) w'):wpList P ops Q (o::rest) a w:=by
 refine OF hgd λK A=>?_
 have b:Src P i.size t v L.length (EI.flat L) w:=by rw[h4];exact hL.src h1
 have j:=EI.eh L;have u:=EI.eh R;have x:L.length*8<=R.length*8:=Og _ qo;have z:EI.sz=8:=rfl;rw[z]at j u;have p:=run_storeCells_at P g 0 86 (EI.flat L) 0 (EI.flat R).toArray w hR qt (EI.As L);simp only[Nat.zero_add,List.take_zero,List.nil_append]at p;have q:=OB hle;have r:(Builtin.copy_ #[t,t] o.type #[.slice (some ⟨g,0,none⟩) n c,v]).run P w=.ok (goInt L.length) (w.setRow g (EI.flat L++(EI.flat R).drop (EI.flat L).length).toArray):=by
  simp[Builtin.copy_,run_underlying h1,b.len,sizeOf,typeInfo,h2,q,b.cells,p]
 have f:Full (w.setRow g (EI.flat L++(EI.flat R).drop (EI.flat L).length).toArray) g (L++R.drop L.length):=by
  unfold Full;rw[O1 w g _ _ _ _ hR,EI.fo]
  congr 4
  have:∀ (R:List Rw) (k:Nat),(EI.flat R).drop (k*8)=EI.flat (R.drop k):=by
   intro R
   induction R with
   | nil=>intro k;simp[fY.flat]
   | cons y l ih =>
    intro k
    cases k with
    | zero=>simp
    | succ k =>
     have e:EI.flat (y::l)=EI.cells y++EI.flat l:=by simp[fY.flat]
     rw[e,List.drop_append,List.drop_of_length_le (by rw[EI.len];show 8<=_;omega),Nt,EI.len,show (k+1)*8-EI.sz=k*8 from by show (k+1)*8-8=_;omega,ih];rfl
  rw[j,this]
 unfold Oper.wp;simp[execOp,ho,resolve,invoke,builtin,hd,hs,r,Result.andThen];exact A _ _ (h _ _ f ⟨rfl,rfl,rfl,by simp[World.setRow],λk _ B=>setRow_other w g k _ (λe=>B (by simp[e]))⟩)
theorem Full.there {w:World}{g:Nat}{R:List Rw}(h:Full w g R){i:Nat}(hi:i<R.length):w.there g (i*8) 8:=λj d=>by
 have b:=EI.eh R;have c:EI.sz=8:=rfl;rw[c]at b;unfold Full at h;have a:i*8+j<(EI.flat R).length:=qo
 simp[World.cell?,World.frozen?,h,a]
theorem Full.at {w:World}{g:Nat}{R:List Rw}(h:Full w g R){i:Nat}{x:Rw}(hx:R[i]?=some x):eight w g (i*8) x:=by
 unfold Full at h;have c:∀ k u,(EI.cells x)[k]?=some u->w.cell? ⟨g,i*8+k,none⟩=some u:=λk u a=>by
  have:=EI.lD R i x hx k u a;rw[show i*EI.sz+k=i*8+k from rfl]at this;simp[World.cell?,h,this]
 exact⟨c 0 _ rfl,c 1 _ rfl,c 2 _ rfl,c 3 _ rfl,c 4 _ rfl,c 5 _ rfl,c 6 _ rfl,c 7 _ rfl⟩
theorem mG {g:Nat}{t:TypeId}:∀ (vs:List Value) (o:Nat) (cur:Array Value) (w:World),w.1[g]?=some (.cells cur t (0,0))->o+vs.length<=cur.size ->
  (w.setCells g o vs).1[g]?=some (.cells (cur.toList.take o++vs++cur.toList.drop (o+vs.length)).toArray t (0,0))
 | [],o,cur,w,h,hl=>by simp[World.setCells,h]
 | v::vs,o,cur,w,h,hl => by
  rw[World.setCells];simp only[List.length_cons]at hl;have h1:(w.setCell ⟨g,o,none⟩ v).1[g]?=some (.cells (cur.setIfInBounds o v) t (0,0)):=by
   rw[setCell_eq_setRow w g o cur t _ v h,O1 w g cur _ t _ h]
  rw[mG vs (o+1) _ _ h1 qt]
  congr 3
  have e:=list_seg_step cur.toList o v vs qt;simpa [Array.toList_setIfInBounds,Nat.add_assoc,Nat.add_comm,Nat.add_left_comm]using e
theorem Full.set {w:World}{g:Nat}{R:List Rw}(h:Full w g R){i:Nat}(hi:i<R.length) (x:Rw):Full (w.setCells g (i*8) (EI.cells x)) g (R.set i x):=by
 have c:=EI.eh R;have b:EI.sz=8:=rfl;rw[b]at c;unfold Full at h |-;have a:(EI.cells x).length=8:=EI.len x;rw[mG (EI.cells x) (i*8) _ w h (by simp;omega),a];have:=EI.pT R i x hi;rw[b]at this;simp only[this]
theorem It.IV {L:List Rw}{no:Nat}{x:Rw}(h:no<=L.length):pl ((L++(List.replicate (max L.length (no+1)) gQ).drop L.length).set no x)=put (pl L) no x.i:=by
 unfold put;simp only[pl,List.length_map,List.drop_replicate];split
 ·rename_i hlt
  rw[show max L.length (no+1)-L.length=0 from by omega];simp[List.map_set]
 ·have : no=L.length := by omega
  subst this;rw[show max L.length (L.length+1)-L.length=1 from by omega];simp
theorem Good.gJ {S T:Nat->Prop}{w w':World}{x:Rw}(h:Good S w x)(hs:w.1.size<=w'.1.size)(hk:∀ b,S b->b<w.1.size->w'.1[b]?=w.1[b]?/\T b):Good T w' x:=⟨h.1.gJ hs hk,h.2.1.gJ hs hk,h.2.2⟩
theorem Good.imp {S T:Nat->Prop}{w:World}{x:Rw}(h:Good S w x)(hk:∀ b,S b->b<w.1.size->T b):Good T w x:=h.gJ qn λb a c=>⟨rfl,hk b a c⟩
theorem kB (S)(w):Good S w gQ:=⟨.inl ⟨_,_,rfl,rfl⟩,.inl ⟨_,_,rfl,rfl⟩,⟨λx a=>(by cases a),MV _,MV _⟩⟩
theorem lR (g):∀ (vs:List Value) (o:Nat) (W:World),(W.setCells g o vs).1.size=W.1.size
 | [],_,_=>rfl
 | v::vs,o,W=>by rw[World.setCells,lR g vs];simp[World.setCell]
theorem kU {g b:Nat}(hne:b≠g):∀ (vs:List Value) (o:Nat) (W:World),(W.setCells g o vs).1[b]?=W.1[b]?
 | [],_,_=>rfl
 | v::vs,o,W => by
  rw[World.setCells,kU hne vs];exact MM _ _ _ _ hne
theorem nV {B g:Nat}{a:World}(hb:B<=g):∀ (vs:List Value) (o:Nat) (w:World),Below B a w->Below B a (w.setCells g o vs)
 | [],_,_,h=>h
 | v::vs,o,w,h => by
  rw[World.setCells];exact nV hb vs (o+1) _ (h.setCell (p:=⟨g,o,none⟩) hb v)
structure kZ (w wr:World) (g n k:Nat) (M:List cL) (R:List Rw):Prop where
 full:Full wr g R
 len:R.length=n
 pl:It.pl R=M
 new:∀ j x,j<k->R[j]?=some x->Good (λb=>g<b) wr x
 Fh:∀ j x,k<=j->R[j]?=some x->Good (λb=>b<w.1.size) wr x
 below:Bw w wr
theorem kZ.set {w wr w2:World}{g n k:Nat}{M:List cL}{R:List Rw}{x x':Rw}(h:kZ w wr g n k M R)(hk:k<n)(hgw:w.1.size<=g)(hx:R[k]?=some x)(hi:x'.i=x.i)(hg:Good (λb=>wr.heap.size<=b) w2 x') (hb:Bw wr w2) :
  kZ w (w2.setCells g (k*8) (EI.cells x')) g n (k+1) M (R.set k x'):=by
 have l:g<wr.1.size:=(MH.1 h.full).1;have m:Full w2 g R:=(hb.block g l).trans h.full;have q:(w2.setCells g (k*8) (EI.cells x')).1.size=w2.1.size:=lR g _ _ _;have a:∀ b,b<w2.1.size->b≠g->(w2.setCells g (k*8) (EI.cells x')).1[b]?=w2.1[b]?:=λb _ p=>kU p _ _ _
 have r:=hb.size;refine⟨m.set (by have:=h.len;omega) x',by rw[OC];exact h.len,?_,λj y s c=>?_,λj y s c=>?_,?_⟩
 ·rw[<-h.pl]
  simp only[It.pl,List.map_set,hi];apply OL
  intro j;rw[Nz];split
  ·rename_i e
   subst e;simp[hx];have:=h.len;omega
  ·rfl
 ·rw[Nz]at c
  split at c
  ·have o : x'=y := by simpa [show k<R.length from by have := h.len;omega]using c
   subst o;exact hg.gJ qo λb f d=>⟨a b d qo,qo⟩
  ·exact ((h.new j y qo c).up hb).gJ qo λb f d=>⟨a b d qo,f⟩
 ·rw[Nz]at c
  split at c
  ·omega
  ·exact ((h.Fh j y qo c).up hb).gJ qo λb f d=>⟨a b d qo,f⟩
 ·exact nV hgw (EI.cells x') (k*8) w2 (h.below.trans (hb.mono h.below.size))
theorem At.tO {α:Type}{E:fY α}{w w':World}{v:Value}{l:List α}{B:Nat}(h:At E (λb=>b<B) w v l)(hb:Below B w w'):At E (λb=>b<B) w' v l:=h.gJ hb.size λb a _=>⟨hb.block b a,a⟩
theorem Good.tO {w w':World}{x:Rw}{B:Nat}(h:Good (λb=>b<B) w x)(hb:Below B w w'):Good (λb=>b<B) w' x:=h.gJ hb.size λb a _=>⟨hb.block b a,a⟩
theorem Ck {w w1:World}{n:Nat}{o:Obj}(hF:Full w1 (w.alloc o).1.size (List.replicate n gQ))(hg:(w.alloc o).grownBy w1 none)(hb:Bw w (w.alloc o)) :
  kZ w w1 (w.1.size+1) n 0 (pl (List.replicate n gQ)) (List.replicate n gQ)/\w1.1[w.1.size]?=some o:=by
 have a:(w.alloc o).1.size=w.1.size+1:=qs
 rw[a]at hF;refine⟨⟨hF,qs,rfl,λj x c=>by omega,λj x _ b=>?_,hb.trans (dR hg qo)⟩,(hg.block _ qo qs).trans (MD _ _)⟩;have:=MG b;rw[List.eq_of_mem_replicate this];exact kB _ _
theorem Dr {w w1 w2:World}{n:Nat}{v:Value}{L:List Rw}{o:Obj}(hF:Full w2 (w.1.size+1) (L++(List.replicate n gQ).drop L.length))(hg:w1.grownBy w2 (some (w.1.size+1)))(h1:kZ w w1 (w.1.size+1) n 0 (pl (List.replicate n gQ)) (List.replicate n gQ)/\w1.1[w.1.size]?=some o)(hv:cD (λb=>b<w.1.size) w v L)(hle:L.length<=n) :
    Hid (kZ w w2 (w.1.size+1) n 0 (pl (L++(List.replicate n gQ).drop L.length)) (L++(List.replicate n gQ).drop L.length))/\Hid (w2.1[w.1.size]?=some o)/\Hid (Bw w w2):=by
  have c:=h1.1.below.grown hg h1.1.below.size (λk d=>by simp at d;omega);refine⟨⟨hF,qt,rfl,λj x g=>by omega,λj x _ f=>?_,c⟩,(hg.block _ (MH.1 h1.2).1 qs).trans h1.2,c⟩;have a:=MG f;rcases Na.1 a with a | a
  · exact (hv.2 x a).tO c
  · have := List.mem_of_mem_drop a
    rw[List.eq_of_mem_replicate this];exact kB _ _
theorem Hk {w w2:World}{n no:Nat}{M:List cL}{R:List Rw}{x:Rw}(h:kZ w w2 (w.1.size+1) n 0 M R)(jR:no<n)(hx:Good (λb=>b<w.1.size) w x) :
  ∃ w3,w3=w2.setCells (w.1.size+1) (no*8) (EI.cells x)/\Hid (kZ w w3 (w.1.size+1) n 0 (pl (R.set no x)) (R.set no x)):=by
 refine⟨_,rfl,⟨h.full.set (by rw[h.len];exact jR) x,by rw[OC];exact h.len,rfl,λj y g=>by omega,λj y _ a=>?_,nV qo _ _ _ h.below⟩⟩;have d:∀ y,Good (λb=>b<w.1.size) w2 y->Good (λb=>b<w.1.size) (w2.setCells (w.1.size+1) (no*8) (EI.cells x)) y:=λy a =>
  a.gJ (by rw[lR];exact MI _) λb f _=>⟨kU qo _ _ _,f⟩
 rw[Nz]at a;split at a
 ·have c : x=y := by simpa [show no<R.length from by rw[h.len];exact jR]using a
  subst c;exact d x (hx.tO h.below)
 ·exact d y (h.Fh j y (MV _) a)
theorem kZ.tab {w wr:World}{g n:Nat}{M:List cL}{R:List Rw}(h:kZ w wr g n n M R)(hg:w.1.size<=g)(hn:n<=25):cD (λb=>w.1.size<=b) wr (.slice (some ⟨g,0,none⟩) n n) R:=by
 have c:=(MH.1 h.full).1;have d:=h.len;refine⟨?_,λy k=>?_⟩
 ·by_cases hp : 0<n
  ·refine .inr ⟨g,0,n,by rw[d],hg,c,qo,qo,by unfold maxLen;omega,λj u a => ?_⟩
   have:=h.full;unfold Full at this;simp[World.cell?,this,a]
  ·have f : R=[] := MX qo
   exact .inl ⟨_,_,by rw[show n=0 by omega],f⟩
 ·obtain⟨j,a⟩ := M1.1 k
  have i:=(MN.1 a).1;exact (h.new j y qo a).imp λb l _=>by omega
theorem lZ {S : Nat → Prop}(v )(L )(no )(x )(w : World)(hv : cD S w v L)(hx : Good S w x)(hL : L.length ≤ 24)(jR : no ≤ L.length) :
    Calls Tryz.prog 203 #[v,.int .i64 no,VI x] w λe w'=>∃ u L',e=.returned u/\cD (λb=>w.1.size<=b) w' u L'/\pl L'=put (pl L) no x.i/\Bw w w':=by
  obtain⟨i0,hi,ag,M,ah⟩:=NQ KU;have HP:=It.IV (x:=x) jR;have C:cD (λb=>b<w.1.size) w v L:=⟨hv.1.imp λb _ X=>X,λy H=>(hv.2 y H).imp λb _ X=>X⟩;have I:=hx.imp λb _ X=>X
  obtain⟨ao,ai,rfl,_,_⟩:=hv.open;obtain⟨n,hn⟩:=qE (max L.length (no+1));have J:max (L.length:Int) ((no:Int)+1)=(n:Int):=qo
  have G:Hid (L.length<=n/\no<n/\n<=25/\no<=L.length):=⟨qo,qo,qo,jR⟩;rw[hn]at HP;obtain⟨m,Y⟩:=qE L.length;have HM:=hH Y;rw[Y]at J |-;rw[Y]at C;have HV:Hid (cD (λb=>b<w.1.size) w (.slice ao m ai) L):=C;have HX:Hid (Good (λb=>b<w.1.size) w x):=I;have aa:Hid (pl ((L++(List.replicate n gQ).drop L.length).set no x)=put (pl L) no x.i):=HP;obtain⟨⟨g,k,l,s,t,Z,es,o⟩,p,q,r,z,A,B⟩:=x;have ab:Hid (Bw w (w.alloc (B8 g k l s t (.slice p q r) (.slice z A B) o))):=qG _ _;have D:(no<m/\Hid (n=m))\/(m<=no/\Hid (n=no+1)):=by
    rcases Ow no m with h | h
    · exact .inl ⟨h,show n=m by omega⟩
    · exact .inr ⟨qo,show n=no+1 by omega⟩
  have am:m<=24:=qo
  have ac:no<=25:=qo
  have an:n<=25:=qo
  have ap:(no:Int)<(n:Int):=qo
  clear hv hx C I HP Y hn jR hL J;rcases D with⟨aj,E⟩ | ⟨aj,E⟩
  all_goals
    go_enter Tryz.func203,Tryz.ntmps203
    go_wp2_with (first
      | (at_make
         refine sV _ rfl _ _ 25 rfl i0 Tryz.underlying25 hi ag M ah _ _ n rfl rfl (by have:=E.out;omega) (by have:=E.out;omega) G.out.2.2.1 ?_;intro w1 N O;have c:=hH<|Ck N O ab)
      | (refine tg _ rfl _ _ 25 rfl i0 Tryz.underlying25 hi M (w.1.size+1) n n rfl _ rfl (λb => b<w.1.size) L (List.replicate n gQ) (HV.out.1.tO c.out.1.below) c.out.1.full c.out.1.len G.out.1 ?_
         intro w2 m2 P Q;obtain⟨f,T,ak⟩:=Dr P Q c HV G.out.1;obtain⟨q0,q1,q2,q3,q4,q5,q6,q7⟩:=(dV T).1)
      | (refine wpList_store_mid rfl 86 _ _ rfl (w.1.size+1) (no*8) #[.int .i64 g,.int .i64 k,.int .i64 l,.int .i64 s,.int .i64 t,.slice p q r,.slice z A B,.int .i64 o] rfl rfl (f.full.there (by rw[f.out.len];exact G.out.2.1)) qk (all_oneCell_toArray (EI.one ⟨⟨g,k,l,s,t,Z,es,o⟩,p,q,r,z,A,B⟩)) ?_
         obtain⟨w3,U,al⟩:=Hk f.out G.out.2.1 HX.out;rw[show (#[Value.int .i64 g,.int .i64 k,.int .i64 l,.int .i64 s,.int .i64 t,.slice p q r,.slice z A B,.int .i64 o]:Array Value).toList=EI.cells ⟨⟨g,k,l,s,t,Z,es,o⟩,p,q,r,z,A,B⟩ from rfl,<-U];clear U c f T ak N O P Q q0 q1 q2 q3 q4 q5 q6 q7))
    go_loopw [24] (λi wr=>∃ (j:Nat) (R:List Rw),j<=n/\i=.int .i64 j/\Hid (kZ w wr (w.1.size+1) n j (pl ((L++(List.replicate n gQ).drop L.length).set no ⟨⟨g,k,l,s,t,Z,es,o⟩,p,q,r,z,A,B⟩)) R)) (λi _=>n-(intOf i).toNat)
    case atStart=>exact⟨0,_,MV _,rfl,al⟩
    case round =>
      obtain⟨j,R,hj,rfl,d⟩:=hrel
      by_cases hjn:j<n
      · obtain⟨y,H⟩ : ∃ y,R[j]?=some y := ⟨_,MF (by rw[d.out.len];exact hjn)⟩
        have HY:=hH H;obtain⟨c0,c1,c2,c3,c4,c5,c6,c7⟩:=d.out.full.at H;have ad:=hH<|d.out.Fh j y qn H;have aq:(j:Int)<(n:Int):=qo
        clear H
        go_wp2_with (first
          | (go_at_call 178
             refine (yy y _ ad).mono ?_;rintro e w4 ⟨a,rfl,V,W,F⟩;have K:=hH<|d.out.set hjn qo HY V W F;have af:=hH<|Full.there ((F.block _ (MH.1 d.full).1).trans d.full) (by rw[d.out.len];exact hjn);clear V W F)
          | (refine wpList_store_mid rfl 86 _ _ rfl (w.1.size+1) (j*8) #[.int .i64 a.i.gen,.int .i64 a.i.kind,.int .i64 a.i.cH,.int .i64 a.i.size,.int .i64 a.i.cF,.slice a.rp a.rn a.rc,.slice a.ep a.en a.ec,.int .i64 a.i.next] rfl rfl af qk (all_oneCell_toArray (EI.one a)) ?_
             rw[show (#[.int .i64 a.i.gen,.int .i64 a.i.kind,.int .i64 a.i.cH,.int .i64 a.i.size,.int .i64 a.i.cF,.slice a.rp a.rn a.rc,.slice a.ep a.en a.ec,.int .i64 a.i.next]:Array Value).toList=EI.cells a from rfl];generalize w4.setCells (w.1.size+1) (j*8) (EI.cells a)=w5 at K))
        go_roundw
        case rel=>exact⟨j+1,_,qo,by go_num,K⟩
        case measure=>simp[intOf];omega
      · obtain rfl : j=n := by omega
        go_wp2;go_ret;refine⟨_,R,rfl,d.tab qo G.out.2.2.1,by rw[d.out.pl];exact aa,d.below⟩
def It.bare (i:cL):Rw:=⟨i,none,0,0,none,0,0⟩
theorem rm (S)(w){i:cL}(h1:i.runs=[])(h2:i.cE=[]):Good S w (It.bare i):=by
 refine⟨.inl ⟨_,_,rfl,h1⟩,.inl ⟨_,_,rfl,h2⟩,?_⟩;unfold It.bare LB;simp only;rw[h1,h2];exact⟨λx a=>(by cases a),MV _,MV _⟩
theorem wH (a b c)(w):Calls Tryz.prog 51 #[.int .i64 a,.int .i64 b,.int .i64 c] w λe w'=>e=.returned (VI (It.bare (fresh a b c)))/\Bw w w':=by
 go_enter Tryz.func51,Tryz.ntmps51;go_wp2
 refine MK (v:=.agg #[.int .i64 a,.int .i64 b,.int .i64 1,.int .i64 0,.int .i64 c,.slice none 0 0,.slice none 0 0,.int .i64 0]) ?_ rfl ⟨rfl,?_⟩
 ·rw[cN rfl]
  go_simp
 ·exact qG _ _
theorem Is (S)(w)(B)(x)(hS:S B)(h:w.1[B]?=some (.cells (EI.cells x).toArray 86 (0,0))):At EI S w (.slice (some ⟨B,0,none⟩) 1 1) [x]:=by
 refine .inr ⟨B,0,1,rfl,hS,(qL h),qs,qs,by simp[maxLen],λj u b=>?_⟩;have a:(EI.cells x)[j]?=some u:=by simpa [fY.flat]using b
 simp[World.cell?,h,a]
theorem IE (w):Calls Tryz.prog 30 #[] w λe w'=>∃ u L,e=.returned u/\cD (λb=>w.1.size<=b) w' u L/\pl L=It.new/\Bw w w':=by
 go_enter Tryz.func30,Tryz.ntmps30;go_wp2_with fail;refine (wH 1 2 0 _).mono ?_;rintro e f ⟨rfl,c⟩;have a:Hid _:=c;clear c;go_wp2;go_ret;refine⟨_,[It.bare (fresh 1 2 0)],rfl,⟨Is _ _ _ _ a.size ?_,λx d=>?_⟩,rfl,a.alloc a.size _⟩
 ·exact MD f _
 ·simp at d;subst d;exact rm _ _ rfl rfl
theorem cU {w:World}{A:Nat}{a b:Int}(h:w.1[A]?=some (BH a b)):(w.cell? ⟨A,0,none⟩=some (.int .i64 a)/\w.cell? ⟨A,1,none⟩=some (.int .i64 b))/\∀ j,w.frozen? ⟨A,j,none⟩=false:=by
 refine⟨⟨?_,?_⟩,λj=>?_⟩ <;> simp[World.cell?,World.frozen?,h]
theorem Aw {S:Nat->Prop}(v)(L)(w:World)(hv:cD S w v L)(hr:It.right (pl L)=true) :
  Calls Tryz.prog 214 #[v] w λe w'=>e=.returned (VH (next (pl L)))/\Bw w w':=by
 obtain⟨ao,Z,rfl,P,a⟩:=hv.open;clear hv;unfold maxLen at P;have X:Hid (∀ x∈L,one x.i=true):=λx a=>(It.cG.1 hr).2.2 x.i (NI.2 ⟨x,a,rfl⟩)
 obtain⟨n,M⟩:=qE L.length;rw[M]at P |-;have F:Hid _:=M;have Y:Hid _:=a;obtain⟨W,B⟩:=qF (w.alloc (BH 0 0));have G:Hid _:=qB B;have H:Hid _:=qC B;have I:w.1.size<W.1.size:=by rw[B];simp
 clear M a hr;go_enter Tryz.func214,Tryz.ntmps214;go_wp2;rw[<-B];clear B;go_loopw [7] (λi wr=>∃ k:Nat,k<=n/\i=.int .i64 k/\(∀ j x,j<k->(pl L)[j]?=some x->¬ (x.kind=0/\x.gen<1099511627776))/\Bw W wr) (λi _=>n-(intOf i).toNat)
 case atStart=>exact⟨0,MV _,rfl,λj x U=>by omega,MJ _ _⟩
 case round =>
  obtain⟨k,hk,rfl,C,c⟩:=hrel;have d:Hid _:=C;have u:=c.size;have f:=qJ G c;have z:Hid _:=(c.block _ I).trans H;clear C
  by_cases hlt:k<n
  ·obtain⟨y,o⟩:∃ y,L[k]?=some y:=⟨_,MF (by rw[F.out];exact hlt)⟩;obtain⟨⟨b,aa,rfl,Q,R⟩,_⟩:=Y.out k y o;obtain⟨d0,d1,d2,d3,d4,d5,d6,d7⟩:=R.below f.out Q;have m:Hid _:=It.nP o;have N:=X.out y (MG o);have A:=It.ud N;obtain⟨⟨g,D,l,s,t,rs,es,nx⟩,rp,rn,rc,ep,en,ec⟩:=y;simp only at d0 d1 d2 d3 d4 d5 d6 d7 A m;have J:Hid ((wr.alloc (B8 g D l s t (.slice rp rn rc) (.slice ep en ec) nx)).1[w.1.size]?=some (BH 0 0)):=(ML _ _ _ qo).trans z;obtain⟨⟨a0,a1⟩,af⟩:=cU J;have O:=qo
   obtain⟨ab,ac⟩:=A;clear o R N Q
   by_cases hkd:D=0
   ·by_cases hge:g<1099511627776
    ·have K:Hid _:=It.E7 m d ⟨hkd,hge⟩;have q:(D==0)=true:=by simp[hkd]
     clear hkd;go_wp2
     refine MK (v:=.agg #[.int .i64 k,.int .i64 (g+1)]) ?_ rfl ⟨by rw[K.out],?_⟩
     ·rw[cN rfl]
      go_simp
     ·exact ((f.alloc f.size _).setCell (p:=⟨w.1.size,0,none⟩) qn _).setCell (p:=⟨w.1.size,1,none⟩) qn _
    ·have q:(D==0)=true:=by simp[hkd]
     have r:Hid (∀ j x,j<k+1->(pl L)[j]?=some x->¬ (x.kind=0/\x.gen<1099511627776)):=λj x U a E=>by
      rcases Ow j k with h | h
      ·exact d j x h a E
      ·obtain rfl:j=k:=qo
       rw[m.out]at a
       cases a
       exact hge E.2
     clear hkd;go_wp2
     go_roundw
     case rel=>exact⟨k+1,qo,by go_num,r,c.alloc u _⟩
     case measure=>simp[intOf];omega
   ·have q:(D==0)=false:=by simp[hkd]
    have r:Hid (∀ j x,j<k+1->(pl L)[j]?=some x->¬ (x.kind=0/\x.gen<1099511627776)):=λj x U a E=>by
     rcases Ow j k with h | h
     ·exact d j x h a E
     ·obtain rfl:j=k:=qo
      rw[m.out]at a
      cases a
      exact hkd E.1
    clear hkd;go_wp2
    go_roundw
    case rel=>exact⟨k+1,qo,by go_num,r.out,c.alloc u _⟩
    case measure=>simp[intOf];omega
  ·obtain rfl:k=n:=by omega
   have K:Hid (next (pl L)=((k:Int),1)):=by
    have h:=It.E1 (L:=pl L) (λi x V a=>d.out i x (by simp only[pl,List.length_map,F.out]at V;exact V) a);simp only[pl,List.length_map,F.out]at h;exact h
   obtain⟨⟨a0,a1⟩,af⟩:=cU z;go_wp2
   refine MK (v:=.agg #[.int .i64 k,.int .i64 1]) ?_ rfl ⟨by rw[K.out],?_⟩
   ·rw[cN rfl]
    go_simp
   ·exact (f.setCell (p:=⟨w.1.size,0,none⟩) qn _).setCell (p:=⟨w.1.size,1,none⟩) qn _
theorem It.jS {L:List cL}{no gen:Int}(h:cM L no gen=0):It.right L=true/\names L no gen=true:=by
 unfold cM at h;split at h
 ·rename_i hr
  split at h
  ·rename_i hn
   exact⟨hr,hn⟩
  ·cases h
 ·cases h
theorem It.named {L:List Rw}{no gen:Int}(h:names (pl L) no gen=true):∃ (k:Nat) (x:Rw),no=(k:Int)/\L[k]?=some x/\x.i.gen=gen/\x.i.kind≠0/\k<L.length:=by
 obtain⟨i,x,a,c,d,f⟩:=It.dY.1 h;simp only[pl,List.getElem?_map,Option.map_eq_some_iff]at a;obtain⟨y,b,rfl⟩:=a;exact⟨i,y,c,b,d,f,(qM b)⟩
theorem It.ew {L:List Rw}(h:It.right (pl L)=true):L.length<=24:=by
 have:=(It.cG.1 h).1;simpa [pl]using this.2
theorem cD.wide {S:Nat->Prop}{w:World}{v:Value}{L:List Rw}(h:cD S w v L):L0 w v L:=⟨h.1.wide,λx a=>(h.2 x a).imp λ_ _ _=>trivial⟩
theorem cD.imp {S T:Nat->Prop}{w:World}{v:Value}{L:List Rw}(h:cD S w v L)(hk:∀ b,S b->b<w.1.size->T b):cD T w v L:=⟨h.1.imp hk,λx a=>(h.2 x a).imp hk⟩
theorem cD.more {A B:Nat}{w:World}{v:Value}{L:List Rw}(h:cD (λb=>B<=b) w v L)(hk:A<=B):cD (λb=>A<=b) w v L:=h.imp λ_ a _=>MS hk a
theorem eG (S)(w):cD S w (.slice none 0 0) []:=⟨At.nil,λx a=>by cases a⟩
theorem AT {S:Nat->Prop}(v)(L)(a b)(w)(hv:cD S w v L) :
  Calls Tryz.prog 155 #[v,.agg #[.int .i64 a,.int .i64 b]] w λe w'=>∃ x:Rw,e=.returned (.tuple #[VI x,.int .i64 (cM (pl L) a b)])/\x.i=cY (pl L) a b/\JM w' x/\Bw w w':=by
 obtain⟨W,r⟩:=qF ((w.alloc (BH a b)).alloc BZ);have o:=hH<|show Bw w W by rw[r];exact (qG _ _).alloc qs _
 have f:Hid (W.1[w.1.size]?=some (BH a b)/\W.1[w.1.size+1]?=some BZ):=by
  rw[r];refine⟨(ML _ _ _ qs).trans (MD _ _),?_⟩;have:=MD (w.alloc (BH a b)) BZ
  rwa [show (w.alloc (BH a b)).1.size=w.1.size+1 by simp]at this
 have aa:w.1.size+1<W.1.size:=by rw[r];simp
 have A:=hH<|hv.up o;obtain⟨⟨U,V⟩,_⟩:=cU f.out.1;obtain⟨ao,Q,rfl,_,_⟩:=hv.open;clear hv;obtain⟨H,d⟩:=qE (cM (pl L) a b);have p:=hH d;rw[d]
 by_cases hz:H=0
 ·rw[hz]at d p;subst hz;obtain⟨hr,X⟩:=It.jS d;obtain⟨k,x,rfl,u,hg,hk,R⟩:=It.named X;have I:=hH<|show cY (pl L) k b=x.i by
   unfold cY;rw[MC d,show ((k:Int)).toNat=k from by omega,It.nP u];rfl
  obtain⟨m,Y⟩:=qE L.length;have ab:(k:Int)<(m:Int):=qo
  rw[Y]at A |-;have J:=hH u;clear d hr X u hg hk R Y;go_enter Tryz.func155,Tryz.ntmps155;go_wp2_with fail;rw[<-r];refine (dU _ L k b _ A).mono ?_;rintro e n ⟨rfl,c⟩;rw[p.out];have q:=qJ o c;have h:Hid (n.1[w.1.size]?=some (BH k b)/\n.1[w.1.size+1]?=some BZ):=⟨(c.block _ qo).trans f.out.1,(c.block _ qo).trans f.out.2⟩;have K:=hH<|A.out.up c;have j:w.1.size+1<n.1.size:=by have:=c.size;omega
  obtain⟨⟨e0,e1⟩,_⟩:=cU h.out.1;obtain⟨ad,Z,B,_,C⟩:=K.out.open;obtain⟨⟨bb,af,T,hB,hc⟩,D⟩:=C k x J;simp only[Value.slice.injEq]at B;obtain⟨rfl,_,rfl⟩:=B;subst T;obtain⟨c0,c1,c2,c3,c4,c5,c6,c7⟩:=hc;have M:Hid _:=D;clear c C D r U V A f;go_wp2_with fail;refine (yy x _ M).mono ?_;rintro e w2 ⟨y,rfl,E,F,z⟩;have N:=qJ q z;have O:Hid _:=(z.block _ j).trans h.out.2;have G:Hid (y.i=cY (pl L) k b/\Good (λb=>n.1.size<=b) w2 y):=⟨E.trans I.symm,F⟩;have P:Hid _:=j;obtain⟨⟨z0,z1,z2,z3,z4,z5,z6,z7⟩,zf⟩:=dV O;obtain⟨⟨g,kk,l,s,t,rs,es,nx⟩,rp,rn,rc,ep,en,ec⟩:=y;clear E F z e0 e1 c0 c1 c2 c3 c4 c5 c6 c7;go_wp2
  refine MK (v:=.tuple #[.agg #[.int .i64 g,.int .i64 kk,.int .i64 l,.int .i64 s,.int .i64 t,.slice rp rn rc,.slice ep en ec,.int .i64 nx],.int .i64 0]) ?_ rfl ⟨⟨⟨g,kk,l,s,t,rs,es,nx⟩,rp,rn,rc,ep,en,ec⟩,rfl,G.out.1,?_,?_⟩
  ·rw[Nn rfl]
   go_simp
  ·have hS:=P.out;refine⟨?_,?_,G.out.2.2.2⟩
   ·refine At.imp (S:=λb=>n.1.size<=b) ?_ (λ_ _ _=>trivial)
    repeat (refine At.setCell ?_ qt _)
    exact G.out.2.1
   ·refine At.imp (S:=λb=>n.1.size<=b) ?_ (λ_ _ _=>trivial)
    repeat (refine At.setCell ?_ qt _)
    exact G.out.2.2.1
  ·repeat (refine MP ?_ qs _)
   exact N
 ·have I:=hH<|show cY (pl L) a b=gU by
   unfold cY;rw[ME (by rw[d];exact hz)]
  have ac:(H==0)=false:=by simp[hz]
  clear hz d;go_enter Tryz.func155,Tryz.ntmps155;go_wp2_with fail;rw[<-r];refine (dU _ L a b _ A).mono ?_;rintro e n ⟨rfl,c⟩;rw[p.out];have q:=qJ o c;have h:Hid _:=(c.block _ qo).trans f.out.2;obtain⟨⟨z0,z1,z2,z3,z4,z5,z6,z7⟩,zf⟩:=dV h;clear c r U V;go_wp2
  refine MK (v:=.tuple #[.agg #[.int .i64 0,.int .i64 0,.int .i64 0,.int .i64 0,.int .i64 0,.slice none 0 0,.slice none 0 0,.int .i64 0],.int .i64 H]) ?_ rfl ⟨gQ,rfl,I.symm,kB _ _,?_⟩
  ·rw[Nn rfl]
   go_simp
  ·repeat (refine MP ?_ qs _)
   exact q
theorem zl {S:Nat->Prop}(v)(L)(a b)(w)(hv:cD S w v L) :
  Calls Tryz.prog 188 #[v,.agg #[.int .i64 a,.int .i64 b]] w λe w'=>∃ u L',e=.returned (.tuple #[u,.int .i64 (eX (pl L) a b)])/\cD (λb=>w.1.size<=b) w' u L'/\pl L'=gF (pl L) a b/\Bw w w':=by
 obtain⟨W,j⟩:=qF (w.alloc (BH a b));have h:Hid _:=qB j;have l:Hid _:=qC j;have I:w.1.size<W.1.size:=by rw[j];simp
 have r:=hH<|hv.up h;obtain⟨⟨t,y⟩,_⟩:=cU l;obtain⟨M,z,rfl,_,_⟩:=hv.open;clear hv;obtain⟨o,d⟩:=qE (cM (pl L) a b);have i:=hH d
 by_cases hz:o=0
 ·rw[hz]at d i;subst hz;obtain⟨A,B⟩:=It.jS d
  by_cases ha:a=0
  ·have g:Hid (eX (pl L) a b=1/\gF (pl L) a b=[]):=by
    have:eX (pl L) a b=1:=by unfold eX;rw[MC d,MC ha]
    exact⟨this,by unfold gF;rw[this];rfl⟩
   rw[g.out.1,g.out.2];subst ha;clear d A B g;go_enter Tryz.func188,Tryz.ntmps188;go_wp2_with fail;rw[<-j];refine (dU _ L 0 b _ r).mono ?_;rintro e C ⟨rfl,c⟩;rw[i.out];have f:=qJ h c;have m:=qK c l;obtain⟨⟨N,O⟩,_⟩:=cU m;clear c j t y;go_wp2
   go_ret2
   exact⟨_,[],rfl,eG _ _,rfl,f⟩
  ·have n:eX (pl L) a b=0:=by unfold eX;rw[MC d,ME ha]
   have g:Hid (gF (pl L) a b=put (pl L) a.toNat (gone b)):=MC n
   rw[n,g.out];obtain⟨k,x,rfl,D,P,Q,E⟩:=It.named B;rw[show ((k:Int)).toNat=k from by omega];have J:((k:Int)==0)=false:=by simpa using ha
   have F:Hid (k<=L.length/\L.length<=24):=⟨qo,It.ew A⟩;clear d A B g n D P Q E ha;go_enter Tryz.func188,Tryz.ntmps188;go_wp2_with fail;rw[<-j];refine (dU _ L k b _ r).mono ?_;rintro e C ⟨rfl,c⟩;rw[i.out];have f:=qJ h c;have m:=qK c l;have s:=hH<|r.out.up c;obtain⟨⟨N,O⟩,_⟩:=cU m;clear c j t y;go_wp2_with fail;refine (lZ _ L k (It.bare (gone b)) _ s (rm _ _ rfl rfl) F.out.2 F.out.1).mono ?_;rintro e G ⟨u,L',rfl,H,p,q⟩;have g:Hid (cD (λb=>w.1.size<=b) G u L'/\pl L'=put (pl L) k (gone b)/\Bw w G):=⟨H.more f.size,p,f.trans (q.mono f.size)⟩;clear H p q;go_wp2
   go_ret2
   exact⟨_,_,rfl,g⟩
 ·have g:Hid (eX (pl L) a b=o/\gF (pl L) a b=[]):=by
   have:eX (pl L) a b=o:=by unfold eX;rw[d,ME hz]
   exact⟨this,by unfold gF;rw[this,ME hz]⟩
  rw[g.out.1,g.out.2];have K:(o==0)=false:=by simp[hz]
  clear hz d g;go_enter Tryz.func188,Tryz.ntmps188;go_wp2_with fail;rw[<-j];refine (dU _ L a b _ r).mono ?_;rintro e C ⟨rfl,c⟩;rw[i.out];have f:=qJ h c;clear c j t y;go_wp2
  go_ret2
  exact⟨_,[],rfl,eG _ _,rfl,f⟩
theorem It.JW {kind cF:Int}(h:oT kind cF=true):(kind=1\/kind=2)/\(0<=cF/\cF<=1099511627776):=by
 unfold oT at h;simp only[Bool.and_eq_true,decide_eq_true_eq]at h;exact h
theorem It.Jp {kind cF:Int}(h:¬ ((kind=1\/kind=2)/\(0<=cF/\cF<=1099511627776))):oT kind cF=false:=by
 cases hq:oT kind cF with
 | false=>rfl
 | true=>exact absurd (It.JW hq) h
def nF (w:World) (L:List cL) (kind cF:Int) (e:Ending) (w':World):Prop :=
 ∃ u L',e=.returned (.tuple #[u,VH (lF L kind cF),.int .i64 (dL L kind cF)])/\cD (λb=>w.1.size<=b) w' u L'/\pl L'=jq L kind cF/\Bw w w'
theorem oB {w w':World}{L:List cL}{kind cF:Int}{e:Ending}{er:Int}(h:dL L kind cF=er)(hz:er≠0)(he:e=.returned (.tuple #[.slice none 0 0,.agg #[.int .i64 0,.int .i64 0],.int .i64 er]))(hb:Bw w w'):nF w L kind cF e w':=by
 refine⟨_,[],?_,eG _ _,?_,hb⟩
 ·rw[he];unfold lF;rw[h,ME hz]
 ·unfold jq;rw[h,ME hz];rfl
theorem oD {S:Nat->Prop}(v)(L)(kind cF)(w)(hv:cD S w v L)(hr:¬ It.right (pl L)=true) :
  Calls Tryz.prog 201 #[v,.int .i64 kind,.int .i64 cF] w λe w'=>nF w (pl L) kind cF e w':=by
 obtain⟨W,c⟩:=qF (w.alloc (BH 0 0));have b:Hid _:=qB c;have d:Hid _:=qC c;have f:w.1.size<W.1.size:=by rw[c];simp
 have i:Hid _:=hv.up b;have j:Hid (It.eW (pl L)=4):=ME hr
 have k:Hid (dL (pl L) kind cF=4):=ME hr
 obtain⟨m,l,rfl,_,_⟩:=hv.open;clear hv hr;go_enter Tryz.func201,Tryz.ntmps201;go_wp2_with fail;rw[<-c];refine (du _ L _ i).mono ?_;rintro e n ⟨rfl,a⟩;rw[j.out];have g:=qJ b a;have h:=qK a d;obtain⟨⟨o,p⟩,q⟩:=cU h;clear a c;go_wp2
 refine MK (v:=.tuple #[.slice none 0 0,.agg #[.int .i64 0,.int .i64 0],.int .i64 4]) ?_ rfl (oB k qd rfl ?_)
 ·rw[eB rfl]
  go_simp
 ·repeat (refine MP ?_ qs _)
  exact g
theorem GB {S:Nat->Prop}(v)(L)(kind cF)(w)(hv:cD S w v L)(hr:It.right (pl L)=true)(ha:¬ ((kind=1\/kind=2)/\(0<=cF/\cF<=1099511627776))) :
  Calls Tryz.prog 201 #[v,.int .i64 kind,.int .i64 cF] w λe w'=>nF w (pl L) kind cF e w':=by
 obtain⟨W,g⟩:=qF (w.alloc (BH 0 0));have b:Hid _:=qB g;have i:Hid _:=qC g;have j:w.1.size<W.1.size:=by rw[g];simp
 have m:Hid _:=hv.up b;have n:Hid (It.eW (pl L)=0):=MC hr
 have o:=hH<|show dL (pl L) kind cF = 1 by unfold dL;rw[MC hr,ME (by rw[It.Jp ha];decide)]
 obtain⟨x,p,rfl,_,_⟩:=hv.open;clear hv hr;have c:((kind != 1)=true/\(kind != 2)=true)\/((kind=1\/kind=2)/\Hid (¬ (0<=cF/\cF<=1099511627776))):=by
  by_cases k:kind=1
  ·exact .inr ⟨.inl k,λh=>ha ⟨.inl k,h⟩⟩
  ·by_cases l:kind=2
   ·exact .inr ⟨.inr l,λh=>ha ⟨.inr l,h⟩⟩
   ·exact .inl ⟨by simp[k],by simp[l]⟩
 clear ha;rcases c with ⟨k,l⟩ | ⟨rfl | rfl,q⟩
 ·go_enter Tryz.func201,Tryz.ntmps201;go_wp2_with fail;rw[<-g];refine (du _ L _ m).mono ?_;rintro e r ⟨rfl,a⟩;rw[n.out];have d:=qJ b a;have f:=qK a i;obtain⟨⟨s,t⟩,u⟩:=cU f;clear a g;go_wp2
  refine MK (v:=.tuple #[.slice none 0 0,.agg #[.int .i64 0,.int .i64 0],.int .i64 1]) ?_ rfl (oB o qd rfl ?_)
  ·rw[eB rfl]
   go_simp
  ·repeat (refine MP ?_ qs _)
   exact d
 all_goals
  go_enter Tryz.func201,Tryz.ntmps201;go_wp2_with fail;rw[<-g];refine (du _ L _ m).mono ?_;rintro e r ⟨rfl,a⟩;rw[n.out];have d:=qJ b a;have f:=qK a i;obtain⟨⟨s,t⟩,u⟩:=cU f;clear a g;go_wp2_with fail;refine (ix _ _ _ _ q).mono ?_;rintro e w' ⟨rfl,rfl⟩;go_wp2
  refine MK (v:=.tuple #[.slice none 0 0,.agg #[.int .i64 0,.int .i64 0],.int .i64 1]) ?_ rfl (oB o qd rfl ?_)
  ·rw[eB rfl]
   go_simp
  ·repeat (refine MP ?_ qs _)
   exact d
theorem IK {w:World}{A B:Nat}{a b:Int}{x y:Value}(h:w.cell? ⟨A,0,none⟩=some (.int .i64 a)/\w.cell? ⟨A,1,none⟩=some (.int .i64 b))(hne:A≠B) :
  ((w.setCell ⟨B,0,none⟩ x).setCell ⟨B,1,none⟩ y).cell? ⟨A,0,none⟩=some (.int .i64 a)/\((w.setCell ⟨B,0,none⟩ x).setCell ⟨B,1,none⟩ y).cell? ⟨A,1,none⟩=some (.int .i64 b):=by
 have c:((w.setCell ⟨B,0,none⟩ x).setCell ⟨B,1,none⟩ y).1[A]?=w.1[A]?:=(MM _ _ _ _ hne).trans (MM _ _ _ _ hne);exact⟨(dJ (p:=⟨A,0,none⟩) c).trans h.1,(dJ (p:=⟨A,1,none⟩) c).trans h.2⟩
theorem Gs {w2 w3 w4:World}{R:Nat}{o:Obj}(hb3:Bw w2 w3)(hb4:Bw w3 w4)(h:w2.1[R]?=some o):w4.1[R]?=some o:=by
 have a:=(qL h);have:=hb3.size;exact (hb4.block _ qo).trans ((hb3.block _ a).trans h)
theorem Good.setCell {S:Nat->Prop}{w:World}{x:Rw}(h:Good S w x){p:Addr}(hp:¬ S p.block)(u):Good S (w.setCell p u) x:=⟨h.1.setCell hp u,h.2.1.setCell hp u,h.2.2⟩
theorem Jy {S:Nat->Prop}(v:Value)(L:List Rw)(kind cF:Int)(w:World)(hv:cD S w v L)(hr:It.right (pl L)=true)(ha:(kind=1\/kind=2)/\(0<=cF/\cF<=1099511627776)) :
  Calls Tryz.prog 201 #[v,.int .i64 kind,.int .i64 cF] w λe w'=>nF w (pl L) kind cF e w':=by
 obtain⟨W,x⟩:=qF (w.alloc (BH 0 0));have k:Hid _:=qB x;have E:Hid _:=qC x;have aa:w.1.size<W.1.size:=by rw[x];simp
 have M:Hid (cD S W v L):=hv.up k.out;have Y:=hH<|show It.eW (pl L)=0 by unfold It.eW;rw[MC hr]
 have F:oT kind cF=true:=by unfold oT;rw[MT ha.1,MT ha.2];rfl
 have G:Hid (dL (pl L) kind cF=if (next (pl L)).1=24 then 407 else 0):=by show dL (pl L) kind cF=_;unfold dL;rw[MC hr,MC F]
 have Z:Hid (It.right (pl L)=true):=hr;have HS:Hid (0<=cF/\cF<=1099511627776):=ha.2;obtain⟨z,c⟩:=It.CQ (pl L);have N:Hid (L.length<=24):=It.ew hr;obtain⟨nx,A⟩:=qE (next (pl L));have q:Hid (next (pl L)=nx):=A;rw[A]at z c G;obtain⟨na,a⟩:=nx;obtain⟨d,rfl⟩:=N7 z;have O:Hid (d<=L.length):=by
  simp only[pl,List.length_map]at c;show d<=L.length;omega
 obtain⟨U,B,rfl,_,_⟩:=hv.open;have l:kind=1\/kind=2:=ha.1;clear hv hr ha F z c A
 by_cases h24:d=24
 ·have r:Hid (dL (pl L) kind cF=407):=by show dL (pl L) kind cF=407;rw[G.out];simp only;rw[MC (by omega)]
  have H:((d:Int)==24)=true:=by simp[h24]
  clear h24 G;rcases l with rfl | rfl
  all_goals
   go_enter Tryz.func201,Tryz.ntmps201;go_wp2_with fail;rw[<-x];refine (du _ L _ M.out).mono ?_;rintro e J ⟨rfl,c⟩;rw[Y.out];have m:Hid (Bw w J):=k.out.trans (c.mono k.out.size);have n:=qK c E;have s:Hid (cD S J (.slice U L.length B) L):=M.out.up c;clear c x;go_wp2_with fail;refine (dD _ _ _ _ HS.out).mono ?_;rintro e w' ⟨rfl,rfl⟩;go_wp2_with fail;refine (Aw _ L _ s.out Z.out).mono ?_;rintro e f ⟨rfl,i⟩;rw[q.out];have o:Hid (Bw w f):=m.out.trans (i.mono m.out.size);have j:Hid (f.1[w.1.size]?=some (BH 0 0)):=(i.block _ (qL n.out)).trans n.out;have u:Hid ((f.alloc (BH d a)).1[w.1.size]?=some (BH 0 0)):=(ML _ _ _ (qL j.out)).trans j.out;obtain⟨⟨e0,e1⟩,ef⟩:=cU u.out;clear i;go_wp2
   (try simp only[Exit.inBlock,Exit.then])
   refine MK (v:=.tuple #[.slice none 0 0,.agg #[.int .i64 0,.int .i64 0],.int .i64 407]) ?_ rfl (oB r.out (by decide) rfl ?_)
   ·rw[eB rfl]
    go_simp
   ·repeat (refine MP ?_ (by simp) _)
    exact o.out.alloc o.out.size _
 ·have r:Hid (dL (pl L) kind cF=0):=by show dL (pl L) kind cF=0;rw[G.out];simp only;rw[ME (by omega)]
  have H:((d:Int)==24)=false:=by simp;omega
  clear h24 G;rcases l with rfl | rfl
  all_goals
   go_enter Tryz.func201,Tryz.ntmps201;go_wp2_with fail;rw[<-x];refine (du _ L _ M.out).mono ?_;rintro e J ⟨rfl,c⟩;rw[Y.out];have m:Hid (Bw w J):=k.out.trans (c.mono k.out.size);have n:=qK c E;have s:Hid (cD S J (.slice U L.length B) L):=M.out.up c;clear c x;go_wp2_with fail;refine (dD _ _ _ _ HS.out).mono ?_;rintro e w' ⟨rfl,rfl⟩;go_wp2_with fail;refine (Aw _ L _ s.out Z.out).mono ?_;rintro e f ⟨rfl,i⟩;rw[q.out];have o:Hid (Bw w f):=m.out.trans (i.mono m.out.size);have j:Hid (f.1[w.1.size]?=some (BH 0 0)):=(i.block _ (qL n.out)).trans n.out;have u:Hid ((f.alloc (BH d a)).1[w.1.size]?=some (BH 0 0)):=(ML _ _ _ (qL j.out)).trans j.out;have P:Hid (cD S (f.alloc (BH d a)) (.slice U L.length B) L):=(s.out.up i).up (qG _ _);have Q:Hid ((f.alloc (BH d a)).1[f.1.size]?=some (BH d a)):=MD _ _;have I:Hid (Bw w (f.alloc (BH d a))):=o.out.alloc o.out.size _;have R:Hid ((f.alloc (BH d a)).cell? ⟨f.1.size,0,none⟩=some (.int .i64 d)/\(f.alloc (BH d a)).cell? ⟨f.1.size,1,none⟩=some (.int .i64 a)):=(cU Q.out).1;have T:f.1.size≠w.1.size:=by
    have:=(qL j.out);omega
   clear i;go_wp2_with fail
   go_region_held3 (λw'=>w'.cell? ⟨f.1.size,0,none⟩=some (.int .i64 d)/\w'.cell? ⟨f.1.size,1,none⟩=some (.int .i64 a)) (first | exact R.out | exact nZ (by assumption) (by assumption) | exact IK (by assumption) T) (first
    | (go_at_call 51;refine (wH a _ cF _).mono ?_;rintro e D ⟨rfl,g⟩)
    | (go_at_call 203;refine (lZ (S:=S) _ L d (It.bare (fresh a _ cF)) _ (P.out.drew.up g) (rm _ _ rfl rfl) N.out O.out).mono ?_;rintro e w4 ⟨V,X,rfl,K,t,C⟩;obtain⟨⟨r0,r1⟩,rf⟩:=cU (Gs g C u.out)))
   have p:Bw w D:=I.out.trans ((⟨g.os,g.tape,g.output,g.size,g.block⟩:Below (f.alloc (BH d a)).1.size (f.alloc (BH d a)) D).mono I.out.size);have h:Hid (cD (λb=>D.1.size<=b) w4 V X/\pl X=put (pl L) d (fresh a _ cF)/\Bw w w4/\w.1.size<D.1.size):=⟨K,t,p.trans (C.mono p.size),by
    have h1:=(qL j.out);have:=g.size;simp at this;omega⟩
   clear K t C g p;go_wp2
   (try simp only[Exit.inBlock,Exit.then])
   refine MK (v:=.tuple #[V,.agg #[.int .i64 d,.int .i64 a],.int .i64 0]) ?_ rfl ⟨V,X,?_,?_,?_,?_⟩
   ·rw[eB rfl]
    go_simp
   ·unfold lF;rw[r.out,MC rfl,q.out]
   ·have hS:=h.out.2.2.2;refine⟨?_,λy hy=>?_⟩
    ·refine At.imp (S:=λb=>D.1.size<=b) ?_ (λb hb _=>by omega)
     repeat (refine At.setCell ?_ (by simp;omega) _)
     exact h.out.1.1
    ·refine Good.imp (S:=λb=>D.1.size<=b) ?_ (λb hb _=>by omega)
     repeat (refine Good.setCell ?_ (by simp;omega) _)
     exact h.out.1.2 y hy
   ·unfold jq;rw[r.out,MC rfl,q.out];exact h.out.2.1
   ·repeat (refine MP ?_ (by simp) _)
    exact h.out.2.2.1
theorem vA {S:Nat->Prop}(v)(L)(kind cF)(w)(hv:cD S w v L) :
  Calls Tryz.prog 201 #[v,.int .i64 kind,.int .i64 cF] w λe w'=>nF w (pl L) kind cF e w':=by
 by_cases hr:It.right (pl L)=true
 ·by_cases ha:(kind=1\/kind=2)/\(0<=cF/\cF<=1099511627776)
  ·exact Jy v L kind cF w hv hr ha
  ·exact GB v L kind cF w hv hr ha
 ·exact oD v L kind cF w hv hr
end Go.Proofs.YtiifhfmekbhlnaaGreat
