/- Part 10. -/
import Derived.Lib.IndexBytes
import Derived.Test.YtiifhfmekbhlnaaGreatChecked
import Derived.Laws.BytesArg
import Derived.Test.YtiifhfmekbhlnaaGreatH9
set_option maxHeartbeats 8000000
set_option maxRecDepth 100000
namespace Go.Proofs.YtiifhfmekbhlnaaGreat
section
open ChangeShapes WideShapes ChangeAt RowKit Deep It
variable {S:Nat->Prop}
theorem Fa (v)(L:List Rw)(w:World)(hv:cD S w v L)(hL:L.length<=1466015503701) :
  Calls Tryz.prog 105 #[v] w λe w'=>∃ u,e=.returned u/\Row EH w' w.1.size 57 u (used (pl L))/\Bw w w':=by
 obtain⟨i0,H,I,J,K⟩:=NQ JJ;obtain⟨ao,ab,rfl,X,Y⟩:=hv.open;clear hv;unfold maxLen at X;obtain⟨n,M⟩:=qE L.length;rw[M]at X hL |-;have R:Hid (L.length=n):=M;have Z:Hid (∀ i x,L[i]?=some x->(∃ b m,ao=some ⟨b,m,none⟩/\b<w.1.size/\eight w b (m+i*8) x)/\Good S w x):=Y;clear M Y;go_enter Tryz.func105,Tryz.ntmps105;go_wp2;go_loopw [3,8] (λu i wr=>∃ k:Nat,k<=n/\i=.int .i64 k/\Row EH wr w.1.size 57 u (used ((pl L).take k))/\Hid (Bw w wr)) (λ_ i _=>n-(intOf i).toNat)
 case atStart=>exact⟨0,MV _,rfl,Row.nil _ _ _ _,MJ _ _⟩
 case round =>
  obtain⟨k,hk,rfl,a,o⟩:=hrel
  by_cases hlt:k<n
  ·have T:L[k]?=some (L[k]'(by have:=R.out;omega)):=MF _;obtain⟨y,l⟩:∃ y,L[k]?=some y:=⟨_,T⟩;clear T;obtain⟨⟨b,m,rfl,N,s⟩,_⟩:=Z.out k y l;obtain⟨d0,d1,d2,d3,d4,d5,d6,d7⟩:=s.below o N;have g:=It.nH (It.nP l);have f:=It.ln ((pl L).take k);rw[M5]at f;obtain⟨C,D,p⟩:=a.slice;generalize used ((pl L).take k)=O at a p g f;obtain⟨q,P⟩:=qE O.length;have U:=hH P;rw[P]at p f;have aa:q<=k:=qo
   subst p;have V:(k:Int)<(n:Int):=qo
   clear l s P f
   by_cases hkd:y.i.kind=0
   ·rw[MC hkd,OD]at g;have r:(y.i.kind==0)=true:=by simp[hkd]
    have j:=hH g;have B:=hH a;clear hkd g a;go_wp2
    go_roundw
    case rel=>exact⟨k+1,qo,by go_num,by rw[j.out];exact B.still (MU _ _ _),o.alloc o.size _⟩
    case measure=>simp[intOf];omega
   ·rw[ME hkd]at g;have r:(y.i.kind==0)=false:=by simp[hkd]
    have j:=hH g;have B:=hH a;have E:=o.out.size;obtain⟨Q,t⟩:=qF (Obj.cells #[.int .i64 y.i.gen,.int .i64 y.i.kind,.int .i64 y.i.cH,.int .i64 y.i.size,.int .i64 y.i.cF,.slice y.rp y.rn y.rc,.slice y.ep y.en y.ec,.int .i64 y.i.next] 86);have W:Hid (ey EH ((wr.alloc Q).alloc (BH k y.i.gen)) (.slice (some ⟨wr.1.size+1,0,none⟩) 1 1) [((k:Int),y.i.gen)]):=by
     refine y6 _ _ _ _ ?_;have:=MD (wr.alloc Q) (BH k y.i.gen);rw[show (wr.alloc Q).1.size=wr.1.size+1 by simp]at this;exact this
    rw[t]at W;clear hkd g a t
    go_wp2_with (at_builtin;refine eF _ rfl _ _ 119 rfl EH (λ_=>True) w.1.size 57 i0 (.agg #[.int .i64 0,.int .i64 0]) 16 Tryz.underlying119 H I J K rfl (.slice C q D) O rfl ((B.still (MU _ _ _)).still (MU _ _ _)) _ [((k:Int),y.i.gen)] rfl W (by have:=U.out;unfold maxLen;simp;omega) (by have:=U.out;simp;omega) qt ?_;intro v7 w7 c z A)
    have F:=hH<|((o.alloc E _).alloc qt _).grown z qt (λi H=>(B.lt i H).1);have G:Hid _:=c;clear c z A;go_wp2
    go_roundw
    case rel=>exact⟨k+1,qo,by go_num,by rw[j.out];exact G,F⟩
    case measure=>simp[intOf];omega
  ·obtain rfl:k=n:=qo
   have HE:Hid (Row EH wr w.1.size 57 u3 (used (pl L))/\Bw w wr):=by
    have h:=a;rw[MY (by have:=R.out;simp only[pl,List.length_map];omega)]at h;exact⟨h,o⟩
   obtain⟨C,D,p⟩:=a.slice;generalize (used ((pl L).take k)).length=q at p;subst p;clear a;go_wp2;go_ret;exact⟨_,rfl,HE⟩
namespace Nf
def fileAt (L:List cL) (h:Int × Int):Bool:=match L[h.1.toNat]? with | some x=>x.kind == 1 | none=>false
def files (L:List cL):List (Int × Int):=(used L).filter (fileAt L)
end Nf
abbrev Ld (v:Value) (t:TypeId):Obj:=.cells #[v] t
theorem C6 {w:World}{A:Nat}{v:Value}{t:TypeId}(h:w.1[A]?=some (Ld v t)):w.cell? ⟨A,0,none⟩=some v:=by simp[World.cell?,h]
theorem BU (v)(L)(no gen)(A)(w)(hv:cD S w v L)(hA:w.1[A]?=some (Ld v 25))(hn:names (pl L) no gen=true) :
  Calls Tryz.prog 107 #[.agg #[.int .i64 no,.int .i64 gen],.pointer (some ⟨A,0,none⟩)] w λe w'=>e=.returned (.bool (!Nf.fileAt (pl L) (no,gen)))/\Bw w w':=by
 obtain⟨k,x,j,a,-,-⟩:=dY.1 hn;obtain⟨y,p,c⟩:=Sp.fF j;have m:Nf.fileAt (pl L) (no,gen)=(y.i.kind==1):=by
  unfold Nf.fileAt;rw[a,show ((k:Int),gen).1.toNat=k by show ((k:Int)).toNat=k;omega,j,c]
 rw[m];obtain⟨I,s,rfl,t,d⟩:=hv.open;obtain⟨⟨b,u,rfl,J,z,B,C,D,E,F,G,H⟩,-⟩:=d k y p;have g:(k:Int)<(L.length:Int):=by have:=(qM p);omega
 have h:=C6 hA;have r:=(qL hA);subst a;obtain⟨q,f⟩:=qE y.i.kind;rw[f]at B |-;obtain⟨n,l⟩:=qE L.length;rw[l]at g h;have o:(!(q==1))=(q != 1):=rfl;rw[o];clear hv d hn j c m t hA z C D E F G H f o;go_enter Tryz.func107,Tryz.ntmps107;go_wp2;go_ret;exact⟨rfl,qG _ _⟩
theorem Dt (v)(L)(w)(hv:cD S w v L)(hL:L.length<=24) :
  Calls Tryz.prog 68 #[v] w λe w'=>∃ u,e=.returned u/\ey EH w' u (Nf.files (pl L))/\Bw w w':=by
 have r:=hH hv;have D:=hH hL;obtain⟨W,j⟩:=qF (w.alloc (Ld v 25));have a:Hid _:=qB j;have b:Hid _:=qC j;have s:=(qL b);have g:=C6 b;obtain⟨P,J,rfl,-,-⟩:=hv.open;obtain⟨n,E⟩:=qE L.length;rw[E]at r b g j |-;clear hv hL E;go_enter Tryz.func68,Tryz.ntmps68;go_wp2_with fail;rw[<-j];clear j g;refine (Fa _ L _ (r.up a) (by have:=D.out;omega)).mono ?_;rintro e F ⟨K,rfl,d,k⟩;have t:=hH d;have c:=hH k;obtain⟨Q,R,l⟩:=d.slice;have y:(used (pl L)).length<=24:=by
  have I:=It.ln (pl L);have O:=D.out;rw[M8]at I;omega
 have z:=hH<|show (used (pl L)).length<=1000 by omega
 obtain⟨m,G⟩:=qE ((used (pl L)).length);rw[G]at l;subst l;clear d k G y;go_wp2_with fail;refine (ID _ (used (pl L)) (λh=>!Nf.fileAt (pl L) h) w.1.size W.1.size _ t c.size z (λx M V N=>?_)).mono ?_
 ·have i:=c.out.trans N;exact BU _ L x.1 x.2 w.1.size V ((r.up a).up i) ((i.block _ s).trans b) (kW.1 M)
 rintro e C ⟨H,rfl,f,o⟩;have A:=hH<|a.out.trans ((c.trans o).mono a.size);have B:=hH<|show ey EH C H (Nf.files (pl L)) by
  have e:Nf.files (pl L)=(used (pl L)).filter λx=>!(!Nf.fileAt (pl L) x):=by
   unfold Nf.files;refine OA λx _=>?_
   simp
  rw[e];exact f
 obtain⟨T,U,p,-,-⟩:=f.open;obtain⟨X,q⟩:=qE (((used (pl L)).filter λx=>!(!Nf.fileAt (pl L) x)).length);rw[q]at p;subst p;clear f o q;go_wp2;go_ret;exact⟨_,rfl,B,A⟩
end
section
open ChangeShapes WideShapes ChangeAt RowKit Deep
theorem pq (v)(l)(w)(hv:cT w.1.size w v l) :
  Calls Tryz.prog 75 #[v] w λe w'=>e=.returned (.int .i64 (Bl.ml l))/\Bw w w':=by
 obtain⟨F,G,rfl,B,m⟩:=hv.open;clear hv;unfold maxLen at B;obtain⟨n,o⟩:=qE l.length;rw[o]at B m |-;have s:=hH o;have E:=hH m;clear o m;go_enter Tryz.func75,Tryz.ntmps75;go_wp2;go_loopw [3,8] (λt i H=>∃ (k:Nat) (y:Int),k<=n/\i=.int .i64 k/\t=.int .i64 y/\y=Bl.ml (l.take k)/\Bw w H) (λ_ i _=>n-(intOf i).toNat)
 case atStart=>exact⟨0,_,MV _,rfl,rfl,rfl,MJ _ _⟩
 case round =>
  obtain⟨k,y,I,rfl,rfl,C,c⟩:=hrel;have u:=hH C;clear C;have f:=c.size
  by_cases hlt:k<n
  ·obtain⟨b,a,rfl,D,q,r⟩ := E k hlt
   have g:k<l.length:=by rw[s.out];exact hlt
   rw[<-c.cell (p:=⟨b,a+k*2,none⟩) D]at q;rw[<-c.cell (p:=⟨b,a+k*2+1,none⟩) D]at r;obtain⟨x,d⟩:=qE (l.getD k (0,.empty));rw[d]at q r;have z:=hH<|Bl.D9 g d;clear d;obtain⟨t,J⟩:=x;simp only at q r z;have A:(k:Int)<(n:Int):=qo
   go_wp2
   go_roundw
   case rel=>exact⟨k+1,_,qo,by go_num,rfl,by rw[z.out,<-u.out],c.alloc f _⟩
   case measure=>simp[intOf];omega
  ·obtain rfl : k=n := by omega
   go_wp2;go_ret;have h:=u.out;rw[<-s.out,Ns]at h;rw[h];exact⟨rfl,c⟩
end
section
open ChangeShapes WideShapes ChangeAt RowKit Deep It
namespace It
def eU (L:List cL):Int:=L.foldl (λy x=>wrap64 (y + Bl.ml x.runs)) 0
theorem Bz {L:List cL}{k:Nat}{x:cL}(h:L[k]?=some x):eU (L.take (k+1))=wrap64 (eU (L.take k)+Bl.ml x.runs):=by
 unfold eU;rw[take_succ h,List.foldl_append];rfl
end It
theorem tU {S : Nat → Prop}(v )(L )(w )(hv : cD S w v L) :
  Calls Tryz.prog 42 #[v] w λe w'=>e=.returned (.int .i64 (eU (pl L)))/\Bw w w':=by
 obtain⟨Y,Z,rfl,I,J⟩:=hv.open;clear hv;unfold maxLen at I;obtain⟨n,A⟩:=qE L.length;rw[A]at I |-;have F:=hH A;have V:=hH J;clear A J;go_enter Tryz.func42,Tryz.ntmps42;go_wp2;go_loopw [3,8] (λt i wr=>∃ (k:Nat) (y:Int),k<=n/\i=.int .i64 k/\t=.int .i64 y/\y=eU ((pl L).take k)/\Bw w wr) (λ_ i _=>n-(intOf i).toNat)
 case atStart=>exact⟨0,0,MV _,rfl,rfl,rfl,MJ _ _⟩
 case round =>
  obtain⟨k,y,hk,rfl,rfl,K,a⟩:=hrel;have G:=hH K;have q:=a.size;clear K
  by_cases hlt:k<n
  ·obtain⟨x,d⟩ : ∃ y,L[k]?=some y := ⟨_,MF (by rw[F.out];exact hlt)⟩
   obtain⟨⟨b,f,rfl,M,N⟩,O⟩:=V.out k x d;obtain⟨d0,d1,d2,d3,d4,d5,d6,d7⟩:=N.below a M;have r:Hid (eU ((pl L).take (k+1))=wrap64 (eU ((pl L).take k)+Bl.ml x.i.runs)):=Bz (It.nP d);have j:=hH<|O.up a;obtain⟨X,B⟩:=qF x;rw[<-B]at r j;have c:(Value.slice x.rp x.rn x.rc)=.slice X.rp X.rn X.rc:=by rw[B]
   obtain⟨⟨g,P,l,s,t,rs,es,Q⟩,C,D,E,R,T,U⟩:=x;simp only at d0 d1 d2 d3 d4 d5 d6 d7 c;have u:=hH<|show cT (wr.alloc (B8 g P l s t (.slice C D E) (.slice R T U) Q)).heap.size (wr.alloc (B8 g P l s t (.slice C D E) (.slice R T U) Q)) (.slice C D E) X.i.runs by
    rw[c];exact (j.out.1.up (qG _ _)).fields
   have H:(k:Int)<(n:Int):=qo
   clear d N O M B c;go_wp2_with fail;refine (pq _ X.i.runs _ u).mono ?_;rintro e w2 ⟨rfl,m⟩;have z:=hH<|(a.alloc q _).trans (m.mono qt);clear m;obtain⟨sm,o⟩:=qE (Bl.ml X.i.runs);rw[o]at r |-;clear o;go_wp2
   go_roundw
   case rel=>exact⟨k+1,_,qo,by go_num,rfl,by rw[r.out,<-G.out],z⟩
   case measure=>simp[intOf];omega
  ·obtain rfl : k=n := by omega
   have W:Hid (y=eU (pl L)):=by
    have h:=G.out;rw[MY (by simp[pl,F.out])]at h;exact h
   go_wp2;go_ret;exact⟨by rw[W.out];rfl,a⟩
abbrev iB (vi vo vs:Value) (dn:Int):Value:=.agg #[vi,vo,vs,.int .i64 dn]
abbrev gB (vi vo vs:Value) (dn:Int):Obj:=.cells #[vi,vo,vs,.int .i64 dn] 29
theorem dg {w:World}{A:Nat}{vi vo vs:Value}{dn:Int}(h:w.1[A]?=some (gB vi vo vs dn)) :
  w.cell? ⟨A,0,none⟩=some vi/\w.cell? ⟨A,1,none⟩=some vo/\w.cell? ⟨A,2,none⟩=some vs/\w.cell? ⟨A,3,none⟩=some (.int .i64 dn):=by
 refine⟨?_,?_,?_,?_⟩ <;> simp[World.cell?,h]
namespace Nf
def yp (L:List cL) (h:Int × Int):Int:=match L[h.1.toNat]? with | some x=>x.cH | none=>0
def k8 (L:List cL) (O:List Os.dP) (h:Int × Int):Bool:=decide (0 < yp L h) || decide (0 < ((Os.Op.held O h.1 h.2:Nat):Int))
def iT (L:List cL) (O:List Os.dP):Bool:=!(O.any λx=>!decide ((x.2.2.1,x.2.2.2)∈files L)) && !((files L).any λh=>!k8 L O h)
def ko (L:List cL) (dn:Int):Bool:=decide (0<=dn/\dn<=1099511627776) && !(L.any λx=>decide (dn < x.cF))
noncomputable def right (L:List cL) (O:List Os.dP) (dn:Int):Bool:=Sp.cZ L && (Os.Op.right 0 O && (iT L O && (decide (eU L<=8192) && ko L dn)))
end Nf
variable {S:Nat->Prop}
theorem uv (vi vo)(sp)(sn sc)(dn)(L)(O)(no gen)(w)(hv:cD S w vi L)(ho:ey Os.EO w vo O)(hn:names (pl L) no gen=true) :
  Calls Tryz.prog 72 #[iB vi vo (.slice sp sn sc) dn,.agg #[.int .i64 no,.int .i64 gen]] w λe w'=>e=.returned (.bool (Nf.k8 (pl L) O (no,gen)))/\Bw w w':=by
 obtain⟨k,x,s,f,-,-⟩:=dY.1 hn;obtain⟨y,B,g⟩:=Sp.fF s;have z:Nf.k8 (pl L) O (no,gen)=(decide (0<y.i.cH)||decide (0<((Os.Op.held O no gen:Nat):Int))):=by
  unfold Nf.k8 Nf.yp;rw[f,show ((k:Int),gen).1.toNat=k by show ((k:Int)).toNat=k;omega,s,g]
 rw[z];obtain⟨W,d⟩:=qF ((w.alloc (gB vi vo (.slice sp sn sc) dn)).alloc (BH no gen));have c:=hH<|show Bw w W by rw[d];exact (qG _ _).alloc qs _
 have A:=hH<|ho.up c;have a:Hid (W.1[w.1.size]?=some (gB vi vo (.slice sp sn sc) dn)/\W.1[w.1.size+1]?=some (BH no gen)):=by
  rw[d];refine⟨(ML _ _ _ qs).trans (MD _ _),?_⟩;have:=MD (w.alloc (gB vi vo (.slice sp sn sc) dn)) (BH no gen)
  rwa [show (w.alloc (gB vi vo (.slice sp sn sc) dn)).1.size=w.1.size+1 by simp]at this
 obtain⟨U,F,rfl,G,j⟩:=hv.open;obtain⟨⟨b,H,rfl,V,I,J,K,M,N,P,Q,R⟩,-⟩:=j k y B;obtain⟨X,Y,rfl,-,-⟩:=ho.open;have p:(k:Int)<(L.length:Int):=by have:=(qM B);omega
 subst f;obtain⟨T,l⟩:=qE y.i.cH;rw[l]at K |-;obtain⟨n,t⟩:=qE L.length;obtain⟨m,u⟩:=qE O.length;rw[t]at p a d |-;rw[u]at a d A |-;obtain⟨Z,a1,a2,a3⟩:=dg a.out.1;obtain⟨⟨h0,h1⟩,-⟩:=cU a.out.2;have C:=(qL a.out.1);have D:=(qL a.out.2);clear hv j hn s g z G ho I J M N P Q R l
 by_cases hp:0<T
 ·rw[MT hp];go_enter Tryz.func72,Tryz.ntmps72;go_wp2;go_ret;refine⟨rfl,?_⟩;have h:=c.out;rw[d]at h;exact h
 ·rw[MO hp];obtain⟨q,v⟩:∃ q:Nat,Os.Op.held O (k:Int) gen=q:=⟨_,rfl⟩;have E:=hH v;rw[v];clear v;go_enter Tryz.func72,Tryz.ntmps72;go_wp2_with fail;rw[<-d];refine (Os.F3 _ O (k:Int) gen _ A).mono ?_;rintro e w1 ⟨rfl,o⟩;rw[E.out];have r:=qJ c o;clear o;go_wp2;go_ret;exact⟨qs,r⟩
theorem Je (u:Value)(U:List (Int × Int))(x:Os.dP)(A:Nat)(w:World) (hu:ey EH w u U) (hA:w.heap[A]? = some (Ld u 119)) :
  Calls Tryz.prog 69 #[.agg #[.int .i64 x.1,.int .i64 x.2.1,.int .i64 x.2.2.1,.int .i64 x.2.2.2],.pointer (some ⟨A,0,none⟩)] w λe w'=>e = .returned (.bool (!decide ((x.2.2.1,x.2.2.2)∈U)))/\Bw w w':=by
 obtain ⟨m,o,f,g⟩:=x;have b:=C6 hA;have k:=(qL hA);have i:Hid (ey EH (w.alloc (Os.BO (m,o,f,g))) u U):=hu.up (qG _ _);obtain⟨p,c,rfl,-,-⟩:=hu.open;obtain⟨r,h⟩:=qE (decide ((f,g)∈U));have l:Hid _:=h;simp only;rw[h];obtain⟨n,j⟩:=qE U.length;rw[j]at b i;clear hu hA h j;go_enter Tryz.func69,Tryz.ntmps69;go_wp2_with fail;refine (mJ _ U f g _ i).mono ?_;rintro e q ⟨rfl,a⟩;rw[l.out];have d:Hid _:=(qG _ _).trans (a.mono qs);clear a;go_wp2;go_ret;exact⟨rfl,d⟩
theorem IB (vi vo)(sp)(sn sc)(dn)(L)(O)(no gen:Int)(A:Nat)(w:World)(hv:cD S w vi L)(ho:ey Os.EO w vo O)(hn:names (pl L) no gen=true)(hA:w.1[A]?=some (gB vi vo (.slice sp sn sc) dn)) :
  Calls Tryz.prog 71 #[.agg #[.int .i64 no,.int .i64 gen],.pointer (some ⟨A,0,none⟩)] w λe w'=>e=.returned (.bool (!Nf.k8 (pl L) O (no,gen)))/\Bw w w':=by
 have k:=(qL hA);have a:Bw w (w.alloc (BH no gen)):=qG _ _;obtain⟨l,o,s,t⟩:=dg hA;have b:=hH<|uv vi vo sp sn sc dn L O no gen _ (hv.up a) (ho.up a) hn;obtain⟨p,c,rfl,-,-⟩:=hv.open;obtain⟨q,d,rfl,-,-⟩:=ho.open;obtain⟨r,j⟩:=qE (Nf.k8 (pl L) O (no,gen));rw[j]at b |-;obtain⟨n,f⟩:=qE L.length;obtain⟨m,g⟩:=qE O.length;rw[f]at l b;rw[g]at o b;clear hv ho hn hA a j f g;go_enter Tryz.func71,Tryz.ntmps71;go_wp2_with fail;refine b.mono ?_;rintro e u ⟨rfl,h⟩;have i:Hid _:=(qG _ _).trans (h.mono qs);clear h b;go_wp2;go_ret;exact⟨rfl,i⟩
theorem Nf.sF {L:List cL}{h:Int × Int}(hm:h∈Nf.files L):names L h.1 h.2=true:=kW.1 (NK.1 hm).1
theorem tQ (vi vo)(sp)(sn sc)(dn)(L)(O)(w)(hv:cD S w vi L)(ho:ey Os.EO w vo O)(hL:L.length<=24) :
  Calls Tryz.prog 41 #[iB vi vo (.slice sp sn sc) dn] w λe w'=>e=.returned (.bool (Nf.iT (pl L) O))/\Bw w w':=by
 have N:=hH hv;have P:=hH ho;have HL:=hH hL;obtain⟨W,y⟩:=qF (w.alloc (gB vi vo (.slice sp sn sc) dn));have j:Hid _:=qB y;have a:Hid _:=qC y;have ac:=(qL a);obtain⟨p,c,rfl,-,-⟩:=hv.open;obtain⟨q,d,rfl,-,-⟩:=ho.open;obtain⟨n,G⟩:=qE L.length;obtain⟨m,H⟩:=qE O.length;rw[G]at N a y |-;rw[H]at P a y |-;obtain⟨r1,t⟩:=qE (O.any λx=>!decide ((x.2.2.1,x.2.2.2)∈Nf.files (pl L)));obtain⟨r2,u⟩:=qE ((Nf.files (pl L)).any λh=>!Nf.k8 (pl L) O h);have hE:Nf.iT (pl L) O=(!r1 && !r2):=by unfold Nf.iT;rw[t,u]
 rw[hE];have HR:Hid ((O.any λx=>!decide ((x.2.2.1,x.2.2.2)∈Nf.files (pl L)))=r1/\((Nf.files (pl L)).any λh=>!Nf.k8 (pl L) O h)=r2):=⟨t,u⟩;obtain⟨U,X,Y,Z⟩:=dg a;clear hv ho hL G H t u hE;go_enter Tryz.func41,Tryz.ntmps41;go_wp2_with fail;rw[<-y];clear y U X Y Z;refine (Dt _ L _ (N.up j) HL).mono ?_;rintro e K ⟨u1,rfl,v,g⟩;obtain⟨M,i⟩:=qF (K.alloc (Ld u1 119));have l:Bw K M:=by rw[i];exact qG _ _
 have o:=g.trans (l.mono g.size);have r:=qJ j o;have s:Hid _:=qC i;have A:=qK g a;have B:=qK o a;have C:=hH<|v.up l;obtain⟨pu,cu,I,-,-⟩:=v.open;obtain⟨k,hk⟩:=qE ((Nf.files (pl L)).length);rw[hk]at I;subst I;have aa:=(qL A);have ab:=(qL B);have D:=(qL s);obtain⟨U,X,Y,Z⟩:=dg A;clear v g l o hk;go_wp2_with fail;rw[<-i];clear i U X Y Z;refine (Li _ O (λx=>!decide ((x.2.2.1,x.2.2.2)∈Nf.files (pl L))) K.1.size _ (P.up r.out) (λx hx V z=>Je _ (Nf.files (pl L)) x K.1.size V (C.up z) ((z.block _ D).trans s))).mono ?_;rintro e w2 ⟨rfl,f⟩;rw[HR.out.1];have b:=qJ r f;have Q:=qK f s;have E:=qK f B;have R:=hH<|C.out.up f;have F:=(qL E);clear f
 cases r1 with
 | true =>
  go_wp2;go_ret;exact⟨rfl,b⟩
 | false =>
  have x0:=C6 Q;go_wp2_with fail;refine (LF _ (Nf.files (pl L)) (λh=>!Nf.k8 (pl L) O h) w.1.size _ R (λx hx V z=>IB _ _ sp sn sc dn L O x.1 x.2 w.1.size V ((N.up b).up z) ((P.up b).up z) (Nf.sF hx) ((z.block _ F).trans E))).mono ?_;rintro e w3 ⟨rfl,J⟩;rw[HR.out.2];have T:=qJ b J;clear J;go_wp2;go_ret;exact⟨qs,T⟩
theorem sA (lo x hi)(w):Calls Tryz.prog 77 #[.int .i64 lo,.int .i64 x,.int .i64 hi] w λe w'=>e=.returned (.bool (decide (lo<=x/\x<=hi)))/\w'=w:=by
 by_cases h1:lo<=x
 ·by_cases h2:x<=hi
  ·rw[MT ⟨h1,h2⟩];go_enter Tryz.func77,Tryz.ntmps77;go_wp2;go_ret;exact⟨rfl,rfl⟩
  ·rw[MO (λh=>h2 h.2)];go_enter Tryz.func77,Tryz.ntmps77;go_wp2;go_ret;exact⟨rfl,rfl⟩
 ·rw[MO (λh=>h1 h.1)];go_enter Tryz.func77,Tryz.ntmps77;go_wp2;go_ret;exact⟨rfl,rfl⟩
theorem Jr (vi vo vs)(dn)(x)(A)(w)(hA:w.1[A]?=some (gB vi vo vs dn)) :
  Calls Tryz.prog 76 #[VI x,.pointer (some ⟨A,0,none⟩)] w λe w'=>e=.returned (.bool (decide (dn<x.i.cF)))/\Bw w w':=by
 have a:=(qL hA);obtain⟨b,c,d,f⟩:=dg hA;go_enter Tryz.func76,Tryz.ntmps76;go_wp2;go_ret;exact⟨rfl,qG _ _⟩
variable {L:List Rw}
theorem J9 {w:World}{v:Value}(h:cD S w v L):ey EI w v L:=h.1.wide
theorem vV (vi)(op)(on oc)(sp)(sn sc)(dn)(L)(w)(hv:cD S w vi L) :
  Calls Tryz.prog 43 #[iB vi (.slice op on oc) (.slice sp sn sc) dn] w λe w'=>e=.returned (.bool (Nf.ko (pl L) dn))/\Bw w w':=by
 have q:=hH hv;obtain⟨W,g⟩:=qF (w.alloc (gB vi (.slice op on oc) (.slice sp sn sc) dn));have b:Hid _:=qB g;have a:Hid _:=qC g;have l:=(qL a);obtain⟨p,c,rfl,-,-⟩:=hv.open;obtain⟨n,h⟩:=qE L.length;rw[h]at q a g |-;obtain⟨o,d⟩:=qE (decide (0<=dn/\dn<=1099511627776));obtain⟨r2,f⟩:=qE (L.any λx=>decide (dn<x.i.cF));have r:Nf.ko (pl L) dn=(o && !r2):=by
  unfold Nf.ko;rw[d,List.any_map];have e:(L.any ((λx=>decide (dn<x.cF)) ∘ Rw.i))=r2:=f;rw[e]
 rw[r];have s:Hid (decide (0<=dn/\dn<=1099511627776)=o/\(L.any λx=>decide (dn<x.i.cF))=r2):=⟨d,f⟩;obtain⟨y,z,A,B⟩:=dg a;clear hv h d f r;go_enter Tryz.func43,Tryz.ntmps43;go_wp2_with fail;rw[<-g];clear g;refine (sA _ _ _ _).mono ?_;rintro e u ⟨rfl,j⟩;obtain rfl:W=u:=j.symm;clear j;rw[s.out.1]
 cases o with
 | false =>
  go_wp2;go_ret;exact⟨rfl,b⟩
 | true =>
  go_wp2_with fail;refine (KV _ L (λx=>decide (dn<x.i.cF)) w.1.size _ (J9 (q.up b)) (λx D V v=>Jr _ _ _ dn x w.1.size V ((v.block _ l).trans a))).mono ?_;rintro e C ⟨rfl,k⟩;rw[s.out.2];have m:=qJ b k;clear k;go_wp2;go_ret;exact⟨qs,m⟩
theorem Fy (h:Sp.cZ (pl L)=true):L.length<=24:=by
 have:=(Sp.ew (Sp.ei.1 h).1).2;simpa using this
noncomputable def Nf.dW (L:List cL) (O:List Os.dP) (dn:Int):Int:=if Nf.right L O dn = true then 0 else 4
theorem vt (vi vo)(sp)(sn sc)(dn)(L)(O)(w)(hv:cD S w vi L)(eE:Sp.m6 L)(ho:ey Os.EO w vo O) :
  Calls Tryz.prog 25 #[iB vi vo (.slice sp sn sc) dn] w λe w'=>e=.returned (.int .i64 (Nf.dW (pl L) O dn))/\Bw w w':=by
 have F:=hH hv;have Q:=hH ho;have R:=hH eE;obtain⟨W,E⟩:=qF (w.alloc (gB vi vo (.slice sp sn sc) dn));have G:Hid _:=qB E;have a:Hid _:=qC E;obtain⟨p,c,rfl,-,-⟩:=hv.open;obtain⟨q,d,rfl,-,-⟩:=ho.open;obtain⟨n,K⟩:=qE L.length;obtain⟨m,M⟩:=qE O.length;rw[K]at F a E |-;rw[M]at Q a E |-;obtain⟨Y,u⟩:=qE (Sp.cZ (pl L));obtain⟨Z,v⟩:=qE (Os.Op.right 0 O);obtain⟨r3,x⟩:=qE (Nf.iT (pl L) O);obtain⟨N,y⟩:=qE (eU (pl L));obtain⟨r5,z⟩:=qE (Nf.ko (pl L) dn);have hE:Nf.dW (pl L) O dn=if (Y&&(Z&&(r3&&(decide (N<=8192)&&r5))))=true then 0 else 4:=by
  unfold Nf.dW Nf.right;rw[u,v,x,y,z]
 rw[hE];have j:Hid (Sp.cZ (pl L)=Y/\Os.Op.right 0 O=Z/\Nf.iT (pl L) O=r3/\eU (pl L)=N/\Nf.ko (pl L) dn=r5):=⟨u,v,x,y,z⟩;obtain⟨f,g,h,i⟩:=dg a;have T:=(qL a);clear hv ho eE K M u v x y z hE;go_enter Tryz.func25,Tryz.ntmps25;go_wp2_with fail;rw[<-E];clear E f g h i;refine (jd S _ L _ (F.up G) R).mono ?_;rintro e w1 ⟨rfl,A⟩;have k:=qJ G A;have l:=qK A a;clear A
 cases Y with
 | false =>
  have H:Sp.dW Sp.cZ (pl L)=4:=by unfold Sp.dW;rw[j.out.1];rfl
  rw[H];clear H;go_wp2;go_ret;exact⟨rfl,k⟩
 | true =>
  have H:Sp.dW Sp.cZ (pl L)=0:=by unfold Sp.dW;rw[j.out.1];rfl
  have HL:Hid _:=Fy j.out.1;rw[H];clear H;obtain⟨f,g,h,i⟩:=dg l;have U:=(qL l);go_wp2_with fail;clear f g h i;refine (Os.du _ O _ (Q.up k)).mono ?_;rintro e w2 ⟨rfl,B⟩;rw[j.out.2.1];have b:=qJ k B;have o:=qK B l;clear B
  cases Z with
  | false =>
   rw[ME qd];go_wp2;go_ret;exact⟨rfl,b⟩
  | true =>
   rw[MC rfl];obtain⟨f,g,h,i⟩:=dg o;have V:=(qL o);go_wp2_with fail;clear f g h i;refine (tQ _ _ sp sn sc dn L O _ (F.up b) (Q.up b) HL).mono ?_;rintro e w3 ⟨rfl,C⟩;rw[j.out.2.2.1];have r:=qJ b C;have s:=qK C o;clear C
   cases r3 with
   | false =>
    go_wp2;go_ret;exact⟨rfl,r⟩
   | true =>
    obtain⟨f,g,h,i⟩:=dg s;have X:=(qL s);go_wp2_with fail;clear f g h i;refine (tU _ L _ (F.up r)).mono ?_;rintro e w4 ⟨rfl,D⟩;rw[j.out.2.2.2.1];have t:=qJ r D;have I:=qK D s;clear D
    by_cases h8:N<=8192
    ·have t8:=MT h8;obtain⟨f,g,h,i⟩:=dg I;have aa:=(qL I);go_wp2_with fail;clear f g h i;refine (vV _ q m d sp sn sc dn L _ (F.up t)).mono ?_;rintro e w5 ⟨rfl,P⟩;rw[j.out.2.2.2.2];have J:=qJ t P;clear P
     cases r5 with
     | false =>
      go_wp2
      all_goals (go_ret;exact⟨qs,J⟩)
     | true =>
      go_wp2
      all_goals (go_ret;exact⟨qs,J⟩)
    ·have t8:=MO h8;go_wp2
     all_goals (go_ret;exact⟨qs,t⟩)
noncomputable def Nf.eP (L:List cL) (O:List Os.dP) (dn client:Int):Int:=if Nf.right L O dn = true then (if dn = 1099511627776 then 5 else if 0<=client/\client<=1099511627776 then 0 else 1) else 4
theorem sE (vi vo)(sp)(sn sc)(dn client)(L)(O)(w)(hv:cD S w vi L)(eE:Sp.m6 L)(ho:ey Os.EO w vo O) :
  Calls Tryz.prog 87 #[iB vi vo (.slice sp sn sc) dn,.int .i64 client] w λe w'=>e=.returned (.int .i64 (Nf.eP (pl L) O dn client))/\Bw w w':=by
 have u:=hH hv;have v:=hH ho;have s:=hH eE;obtain⟨W,i⟩:=qF (w.alloc (gB vi vo (.slice sp sn sc) dn));have f:Hid _:=qB i;have b:Hid _:=qC i;obtain⟨p,c,rfl,-,-⟩:=hv.open;obtain⟨q,d,rfl,-,-⟩:=ho.open;obtain⟨n,k⟩:=qE L.length;obtain⟨m,l⟩:=qE O.length;rw[k]at u b i |-;rw[l]at v b i |-;obtain⟨E,a⟩:=qE (Nf.eP (pl L) O dn client);rw[a];unfold Nf.eP at a;have C:=(qL b);obtain⟨x,y,z,A⟩:=dg b;clear hv ho eE k l;go_enter Tryz.func87,Tryz.ntmps87;go_wp2_with fail;rw[<-i];clear i x y z A;refine (vt _ _ sp sn sc dn L O _ (u.up f) s (v.up f)).mono ?_;rintro e B ⟨rfl,h⟩;have g:=qJ f h;have j:=qK h b;clear h;unfold Nf.dW
 by_cases h1:Nf.right (pl L) O dn=true
 ·rw[MC h1]at a;rw[MC h1];obtain⟨x,y,z,A⟩:=dg j;have D:=(qL j)
  by_cases h2:dn=1099511627776
  ·rw[MC h2]at a;subst a;have F:(dn==1099511627776)=true:=by simp[h2]
   go_wp2;go_ret;exact⟨rfl,g⟩
  ·rw[ME h2]at a;have F:=MQ.2 h2;obtain⟨r,t⟩:=qE (decide (0<=client/\client<=1099511627776));go_wp2_with fail;refine (sA _ _ _ _).mono ?_;rintro e G ⟨rfl,o⟩;obtain rfl:B=G:=o.symm;clear o;rw[t]
   cases r with
   | true =>
    rw[MC (of_decide_eq_true t)]at a;subst a;go_wp2;go_ret;exact⟨rfl,g⟩
   | false =>
    rw[ME (of_decide_eq_false t)]at a;subst a;go_wp2;go_ret;exact⟨rfl,g⟩
 ·rw[ME h1]at a;subst a;rw[ME h1];go_wp2;go_ret;exact⟨rfl,g⟩
end
end Go.Proofs.YtiifhfmekbhlnaaGreat
namespace Go.Proofs.YtiifhfmekbhlnaaGreat.Ks
namespace Pl
def digits (k m:Nat):List UInt8:=(List.range k).map λj=>UInt8.ofNat (m / 256 ^ (k - 1 - j) % 256)
def jA (l:List UInt8):ByteArray:=⟨l.toArray⟩
def gl (n size:Int):Bool:=decide (size < 1\/8 < size\/n < 0) || decide (n.toNat / 256 ^ size.toNat≠0)
def cW (n size:Int):ByteArray:=if gl n size then jA [] else jA (digits size.toNat n.toNat)
def numOf (l:List UInt8):Nat:=l.foldl (λn b=>256 * n + b.toNat) 0
def sX (s:ByteArray):Bool:=decide (s.size < 1\/8 < s.size)
def tm (s:ByteArray):Bool:=decide (s.size = 8) && decide (128<=(s.data.toList.headD 0).toNat)
def de (s:ByteArray):Int:=if sX s || tm s then 0 else numOf s.data.toList
end Pl
namespace Pl
def jH (x:Int × ByteArray):List UInt8:=[UInt8.ofNat x.1.toNat,UInt8.ofNat (x.2.size / 256),UInt8.ofNat (x.2.size % 256)] ++ x.2.data.toList
def encs (l:List (Int × ByteArray)):List UInt8:=l.flatMap jH
end Pl
namespace Pl
def join (d:List (Int × ByteArray)) (r:List (Int × ByteArray) × Int):List (Int × ByteArray) × Int:=if r.2 = 0 then (d ++ r.1,0) else ([],r.2)
end Pl
namespace Ak
structure Cl where
 k:Int
 no:Int
 gen:Int
 jz:Int
 fm:Int
 nm:ByteArray
 lV:ByteArray
 pl:Int
 n:Int
 data:ByteArray
def zero:Cl:=⟨0,0,0,0,0,⟨#[]⟩,⟨#[]⟩,0,0,⟨#[]⟩⟩
abbrev lN (no gen:Int):Prop:=(0<=no/\no<=255)/\(0<=gen/\gen<=1099511627776)
def eE (no gen:Int):Bool:=decide (lN no gen)
abbrev dN (c:Cl):Prop:=(1<=c.k/\c.k<=14)/\lN c.no c.gen/\lN c.jz c.fm/\c.nm.size<=255/\c.lV.size<=255/\(0<=c.pl/\c.pl<=4294967295)/\(0<=c.n/\c.n<=65535)/\c.data.size<=1024
def right (c:Cl):Bool:=decide (dN c)
theorem cG {c:Cl}:right c=true ↔ dN c:=by simp[right]
theorem iy {c:Cl}:right c=false ↔ ¬ dN c:=by simp[right]
def opt (b:Bool) (x:Int × ByteArray):List (Int × ByteArray):=if b then [x] else []
def vG (no gen:Int):Bool:=!(no == 0 && gen == 0)
def Bf (s:ByteArray):Bool:=!s.toList.isEmpty
def ek (no gen:Int):ByteArray:=Pl.cW no 1 ++ Pl.cW gen 6
def f1 (c:Cl):List (Int × ByteArray):=[(1,Pl.cW c.k 1)]
def f2 (c:Cl):=f1 c ++ opt (vG c.no c.gen) (2,ek c.no c.gen)
def f3 (c:Cl):=f2 c ++ opt (vG c.jz c.fm) (3,ek c.jz c.fm)
def f4 (c:Cl):=f3 c ++ opt (Bf c.nm) (4,c.nm)
def f5 (c:Cl):=f4 c ++ opt (Bf c.lV) (5,c.lV)
def f6 (c:Cl):=f5 c ++ opt (c.pl != 0) (6,Pl.cW c.pl 4)
def f7 (c:Cl):=f6 c ++ opt (c.n != 0) (7,Pl.cW c.n 2)
def fields (c:Cl):=f7 c ++ opt (Bf c.data) (8,c.data)
def jR (s:ByteArray):Int:=if s.size = 7 then Pl.de (s.extract 0 1) else 0
end Ak
end Go.Proofs.YtiifhfmekbhlnaaGreat.Ks
namespace Go.Proofs.YtiifhfmekbhlnaaGreat.Ks
open ChangeShapes WideShapes ChangeAt RowKit Deep
open Ak
structure jy (w:World) where
 out:World
 grown:w.grownBy out none
abbrev VC (c:Cl):Value:=.agg #[.int .i64 c.k,.int .i64 c.no,.int .i64 c.gen,.int .i64 c.jz,.int .i64 c.fm,.string c.nm,.string c.lV,.int .i64 c.pl,.int .i64 c.n,.string c.data]
abbrev BC (c:Cl):Obj:=.cells #[.int .i64 c.k,.int .i64 c.no,.int .i64 c.gen,.int .i64 c.jz,.int .i64 c.fm,.string c.nm,.string c.lV,.int .i64 c.pl,.int .i64 c.n,.string c.data] 73
abbrev VH (no gen:Int):Value:=.agg #[.int .i64 no,.int .i64 gen]
abbrev BH (no gen:Int):Obj:=.cells #[.int .i64 no,.int .i64 gen] 57
theorem dK {w:World}{b:Nat}{c:Cl}(h:w.1[b]?=some (BC c)):w.cell? ⟨b,0,none⟩=some (.int .i64 c.k)/\w.cell? ⟨b,1,none⟩=some (.int .i64 c.no)/\w.cell? ⟨b,2,none⟩=some (.int .i64 c.gen)/\w.cell? ⟨b,3,none⟩=some (.int .i64 c.jz)/\w.cell? ⟨b,4,none⟩=some (.int .i64 c.fm)/\w.cell? ⟨b,5,none⟩=some (.string c.nm)/\w.cell? ⟨b,6,none⟩=some (.string c.lV)/\w.cell? ⟨b,7,none⟩=some (.int .i64 c.pl)/\w.cell? ⟨b,8,none⟩=some (.int .i64 c.n)/\w.cell? ⟨b,9,none⟩=some (.string c.data):=by
 refine⟨?_,?_,?_,?_,?_,?_,?_,?_,?_,?_⟩ <;> simp[World.cell?,h]
theorem fC (lo x hi)(b)(w)(h:Hid (decide (lo<=x/\x<=hi)=b)):Calls Tryz.prog 81 #[.int .i64 lo,.int .i64 x,.int .i64 hi] w λe w'=>e=.returned (.bool b)/\w'=w:=by
 rw[<-h.out];clear h
 by_cases h1:lo<=x
 ·by_cases h2:x<=hi
  ·rw[MT (show lo<=x/\x<=hi from ⟨h1,h2⟩)];go_enter Tryz.func81,Tryz.ntmps81;go_wp2;go_ret;exact⟨rfl,rfl⟩
  ·rw[MO (show ¬ (lo<=x/\x<=hi) from λh=>h2 h.2)];go_enter Tryz.func81,Tryz.ntmps81;go_wp2;go_ret;exact⟨rfl,rfl⟩
 ·rw[MO (show ¬ (lo<=x/\x<=hi) from λh=>h1 h.1)];go_enter Tryz.func81,Tryz.ntmps81;go_wp2;go_ret;exact⟨rfl,rfl⟩
theorem wW (no gen)(b)(w)(h:Hid (eE no gen=b)):Calls Tryz.prog 82 #[VH no gen] w λe w'=>e=.returned (.bool b)/\w'=w.alloc (BH no gen):=by
 by_cases h1:0<=no/\no<=255
 ·have a:Hid _:=MT h1;have c:=hH<|show decide (0<=gen/\gen<=1099511627776) = b by
   rw[<-h.out];unfold eE lN;simp[h1]
  clear h h1;go_enter Tryz.func82,Tryz.ntmps82;go_wp2_with fail;refine (fC _ _ _ _ _ a).mono ?_;rintro e w' ⟨rfl,rfl⟩;go_wp2_with fail;refine (fC _ _ _ _ _ c).mono ?_;rintro e w' ⟨rfl,rfl⟩;go_wp2;go_ret;exact⟨rfl,rfl⟩
 ·have a:Hid _:=MO h1;have c:=hH<|show b = false by rw[<-h.out];unfold eE lN;exact MO λd=>h1 d.1
  clear h h1;go_enter Tryz.func82,Tryz.ntmps82;go_wp2_with fail;refine (fC _ _ _ _ _ a).mono ?_;rintro e w' ⟨rfl,rfl⟩;go_wp2;go_ret;rw[c.out];exact⟨rfl,rfl⟩
theorem mq (c : Cl)(w : World)(y : Int)(h : Hid ((if right c then (0 : Int) else 413)=y)) : Calls Tryz.prog 48 #[VC c] w λe w' => e=.returned (.int .i64 y) ∧ Bw w w' := by
 obtain⟨k,o,g,j,b,l,d,m,n,a⟩:=c
 have A:Hid (¬dN ⟨k,o,g,j,b,l,d,m,n,a⟩->y=413):=λi=>by rw[<-h.out,iy.2 i];rfl
 have B:Hid (dN ⟨k,o,g,j,b,l,d,m,n,a⟩->y=0):=λi=>by rw[<-h.out,cG.2 i];rfl
 clear h
 by_cases h0:1<=k/\k<=14
 case' neg=>
  have f:=hH<|A.out λi=>h0 i.1
  have p:Hid _:=MO h0
 case' pos=>
  have p:Hid _:=MT h0
  by_cases h1:lN o g
  case' neg=>
   have f:=hH<|A.out λi=>h1 i.2.1
   have q:Hid _:=MO h1
  case' pos=>
   have q:Hid _:=MT h1
   by_cases h2:lN j b
   case' neg=>
    have f:=hH<|A.out λi=>h2 i.2.2.1
    have r:Hid _:=MO h2
   case' pos=>
    have r:Hid _:=MT h2
    by_cases h3:l.size<=255
    case' neg=>
     have f:=hH<|A.out λi=>h3 i.2.2.2.1
     have s:¬ ((l.size:Int)<=255):=by omega
    case' pos=>
     have s:((l.size:Int)<=255):=by omega
     by_cases h4:d.size<=255
     case' neg=>
      have f:=hH<|A.out λi=>h4 i.2.2.2.2.1
      have t:¬ ((d.size:Int)<=255):=by omega
     case' pos=>
      have t:((d.size:Int)<=255):=by omega
      by_cases h5:0<=m/\m<=4294967295
      case' neg=>
       have f:=hH<|A.out λi=>h5 i.2.2.2.2.2.1
       have u:Hid _:=MO h5
      case' pos=>
       have u:Hid _:=MT h5
       by_cases h6:0<=n/\n<=65535
       case' neg=>
        have f:=hH<|A.out λi=>h6 i.2.2.2.2.2.2.1
        have v:Hid _:=MO h6
       case' pos=>
        have v:Hid _:=MT h6
        by_cases h7:a.size<=1024
        case' neg=>
         have f:=hH<|A.out λi=>h7 i.2.2.2.2.2.2.2
         have x:decide ((a.size:Int)<=1024)=false:=MO (by omega)
        case' pos=>
         have x:decide ((a.size:Int)<=1024)=true:=MT (by omega)
         have f:Hid (y=0):=B.out ⟨h0,h1,h2,h3,h4,h5,h6,h7⟩
 all_goals
  (try clear h7)
  (try clear h6)
  (try clear h5)
  (try clear h4)
  (try clear h3)
  (try clear h2)
  (try clear h1)
  clear h0 A B;go_enter Tryz.func48,Tryz.ntmps48
  go_wp2_with (first
  | (go_at_call 81;refine (fC _ _ _ _ _ (by assumption)).mono ?_;rintro e w' ⟨rfl,rfl⟩)
  | (go_at_call 82;refine (wW _ _ _ _ (by assumption)).mono ?_;rintro e w' ⟨rfl,rfl⟩))
  go_ret;rw[f.out];exact⟨rfl,by first | exact qG _ _ | exact (qG _ _).alloc (by simp) _ | exact ((qG _ _).alloc (by simp) _).alloc (by simp;omega) _⟩
end Go.Proofs.YtiifhfmekbhlnaaGreat.Ks
namespace Go.Proofs.YtiifhfmekbhlnaaGreat
open ChangeShapes WideShapes ChangeAt RowKit Deep It
abbrev fw:=Ks.Ak.Cl
abbrev gj (vi vo vs:Value) (dn cl:Int) (c:fw):Obj:=.cells #[vi,vo,vs,.int .i64 dn,.int .i64 cl,.int .i64 c.k,.int .i64 c.no,.int .i64 c.gen,.int .i64 c.jz,.int .i64 c.fm,.string c.nm,.string c.lV,.int .i64 c.pl,.int .i64 c.n,.string c.data] 143
theorem gh {w:World}{A:Nat}{vi vo vs:Value}{dn cl:Int}{c:fw}(h:w.1[A]?=some (gj vi vo vs dn cl c)) :
  w.cell? ⟨A,0,none⟩=some vi/\w.cell? ⟨A,1,none⟩=some vo/\w.cell? ⟨A,2,none⟩=some vs/\w.cell? ⟨A,3,none⟩=some (.int .i64 dn)/\w.cell? ⟨A,4,none⟩=some (.int .i64 cl)/\w.cell? ⟨A,5,none⟩=some (.int .i64 c.k)/\w.cell? ⟨A,6,none⟩=some (.int .i64 c.no)/\w.cell? ⟨A,7,none⟩=some (.int .i64 c.gen) /\
   w.cell? ⟨A,8,none⟩=some (.int .i64 c.jz)/\w.cell? ⟨A,9,none⟩=some (.int .i64 c.fm)/\w.cell? ⟨A,10,none⟩=some (.string c.nm)/\w.cell? ⟨A,11,none⟩=some (.string c.lV)/\w.cell? ⟨A,12,none⟩=some (.int .i64 c.pl)/\w.cell? ⟨A,13,none⟩=some (.int .i64 c.n)/\w.cell? ⟨A,14,none⟩=some (.string c.data):=by
 refine⟨?_,?_,?_,?_,?_,?_,?_,?_,?_,?_,?_,?_,?_,?_,?_⟩ <;> simp[World.cell?,h]
theorem zP {w:World}{A:Nat}{vi vo vs:Value}{dn cl:Int}{c:fw}(h:w.1[A]?=some (gj vi vo vs dn cl c))(j):w.frozen? ⟨A,j,none⟩=false:=by simp[World.frozen?,h]
abbrev nr (e a b k l s t:Int) (d:ByteArray) (v:Value) (n:Int):Value:=.agg #[.int .i64 e,.int .i64 a,.int .i64 b,.int .i64 k,.int .i64 l,.int .i64 s,.int .i64 t,.string d,v,.int .i64 n]
abbrev Gk (e a b k l s t:Int) (d:ByteArray) (v:Value) (n:Int):Obj:=.cells #[.int .i64 e,.int .i64 a,.int .i64 b,.int .i64 k,.int .i64 l,.int .i64 s,.int .i64 t,.string d,v,.int .i64 n] 62
abbrev iM (e:Int):Value:=nr e 0 0 0 0 0 0 ⟨#[]⟩ (.slice none 0 0) 0
theorem eV (e0)(w):Calls Tryz.prog 88 #[.int .i64 e0] w λe w'=>e=.returned (iM e0)/\Bw w w':=by
 go_enter Tryz.func88,Tryz.ntmps88;go_wp2
 refine MK (v:=iM e0) ?_ rfl ⟨rfl,?_⟩
 ·rw[cN rfl]
  go_simp
 ·have h := (MJ w.1.size w)
  repeat (first | exact h | refine Nr ?_ qn _ | refine MP ?_ qs _)
theorem pz {S:Nat->Prop}(vi vo vs)(dn cl)(c)(L)(B)(no gen:Int)(w:World)(hB:w.1[B]?=some (gj vi vo vs dn cl c))(hv:cD S w vi L){k:Nat}{y:Rw}(hk:L[k]?=some y)(jR:no=k) :
  Calls Tryz.prog 154 #[.pointer (some ⟨B,0,none⟩),.agg #[.int .i64 no,.int .i64 gen]] w λe w'=>e = .returned (VA y.i.kind y.i.cH y.i.size y.i.cF)/\Bw w w':=by
 subst jR;have g:=(MH.1 hB).1;obtain ⟨j,-,-,-,-,-,-,-,-,-,-,-,-,-,-⟩:=gh hB;obtain ⟨u,l,rfl,m,a⟩:=hv.open;obtain ⟨⟨b,o,rfl,p,q,x,z,A,C,r,s,t⟩,-⟩:=a k y hk;have f:(k:Int)<(L.length:Int):=by have:=(MN.1 hk).1;omega
 obtain⟨n,d⟩:=qE L.length;rw[d]at f j;clear hv a hB m d q r s t;go_enter Tryz.func154,Tryz.ntmps154;go_wp2_with fail
 go_region
 all_goals
  go_wp2
  refine MK (v:=VA y.i.kind y.i.cH y.i.size y.i.cF) ?_ rfl ⟨rfl,?_⟩
  ·rw[cN rfl]
   go_simp
  ·have h := (MJ w.1.size w)
   repeat (first | exact h | refine cX ?_ | refine Nr ?_ qs _ | refine MP ?_ qs _)
structure Shut (K:Prop):Prop where
 out:K
theorem lM {G K:Prop}(k:Shut K->G)(c:K):G:=k ⟨c⟩
theorem ij {w:World}{A:Nat}{cs:Array Value}{t:TypeId}(h:w.1[A]?=some (.cells cs t))(k)(u):(w.setCell ⟨A,k,none⟩ u).1[A]?=some (.cells (cs.setIfInBounds k u) t):=by
 rw[setCell_eq_setRow w A k _ _ _ _ h,O1 w A _ _ _ _ h]
theorem cJ {w:World}{A:Nat}{cs:Array Value}{t:TypeId}(h:w.1[A]?=some (.cells cs t))(k):w.cell? ⟨A,k,none⟩=cs[k]?:=by simp[World.cell?,h]
theorem dw {w:World}{A:Nat}{cs:Array Value}{t:TypeId}(h:w.1[A]?=some (.cells cs t))(k):w.frozen? ⟨A,k,none⟩=false:=by simp[World.frozen?,h]
theorem dO {A:Nat}{t:TypeId}{w:World}{cur:Array Value}(vs)(h:w.1[A]?=some (.cells cur t (0,0)))(hl:vs.length=cur.size):(w.setCells A 0 vs).1[A]?=some (.cells vs.toArray t (0,0)):=by
 have a:=mG vs 0 cur w h qo;rw[a];simp[hl]
theorem da {A B:Nat}{w:World}(hA:B<=A):∀ (vs:List Value) (o:Nat) (w':World),Below B w w'->Below B w (w'.setCells A o vs)
 | [],_,_,h=>h
 | _::vs,o,_,h=>da hA vs (o+1) _ (MP h hA _)
theorem iO {S:Nat->Prop}{A:Nat}{y:Rw}(hA:¬ S A):∀ (vs:List Value) (o:Nat) (w:World),Good S w y->Good S (w.setCells A o vs) y
 | [],_,_,h=>h
 | _::vs,o,_,h=>iO hA vs (o+1) _ (h.setCell hA _)
abbrev cI (x:Rw):List Value:=[.int .i64 x.i.gen,.int .i64 x.i.kind,.int .i64 x.i.cH,.int .i64 x.i.size,.int .i64 x.i.cF,.slice x.rp x.rn x.rc,.slice x.ep x.en x.ec,.int .i64 x.i.next]
noncomputable def Nf.gK (L:List cL) (a b kind instead:Int):Int:=if cM L a b = 0 then (if (cY L a b).kind = kind then 0 else instead) else cM L a b
theorem wi {S : Nat → Prop}(vi vo vs : Value)(dn cl : Int)(c : fw)(L : List Rw)(B : Nat)(kind instead : Int)(w : World)(hB : w.1[B]?=some (gj vi vo vs dn cl c))(hv : cD S w vi L)(hi : instead≠0) :
    Calls Tryz.prog 169 #[.pointer (some ⟨B,0,none⟩),.int .i64 kind,.int .i64 instead] w λe w'=>∃ x:Rw,e=.returned (.tuple #[VI x,.int .i64 (Nf.gK (pl L) c.no c.gen kind instead)])/\x.i=(if Nf.gK (pl L) c.no c.gen kind instead=0 then cY (pl L) c.no c.gen else gU)/\Good (λb=>w.1.size < b) w' x/\Bw w w':=by
  have ac:=(MH.1 hB).1;obtain⟨W,hW⟩:=qF (w.alloc (BZ));have s:Hid _:=qB hW;have F:Hid _:=qC hW;have G:Hid (W.1[B]?=some (gj vi vo vs dn cl c)):=(s.out.block _ ac).trans hB;have HV:Hid (cD S W vi L):=hv.up s.out;have Q:w.1.size<W.1.size:=(MH.1 F.out).1;obtain⟨t0,-,-,-,-,-,t6,t7,-,-,-,-,-,-,-⟩:=gh G.out;obtain⟨ao,N,rfl,-,-⟩:=hv.open;obtain⟨n,aa⟩:=qE L.length;rw[aa]at t0 HV G;obtain⟨a,ha⟩:=qE c.no;obtain⟨b,O⟩:=qE c.gen;rw[ha]at t6;rw[O]at t7;rw[ha,O];obtain⟨fe,p⟩:=qE (cM (pl L) a b);obtain⟨E,q⟩:=qE (Nf.gK (pl L) a b kind instead);rw[q];unfold Nf.gK at q;rw[p]at q;have HC:Hid (∀ V,Bw W V->Calls Tryz.prog 155 #[.slice ao n N,.agg #[.int .i64 a,.int .i64 b]] V λe w'=>∃ x:Rw,e=.returned (.tuple #[VI x,.int .i64 fe])/\x.i=cY (pl L) a b/\Good (λb=>V.1.size<=b) w' x/\Bw V w'):=λV h=>by
    rw[<-p];exact lu _ L a b V (HV.out.up h)
  have d:Hid (Bw W (W.alloc (BZ))):=qG _ _;have k:Hid (Bw W (W.drew.alloc (BZ))):=(cX (MJ _ _)).alloc (MI _) _;have R:Hid (∀ V:World,Bw W V->V.cell? ⟨B,0,none⟩=some (.slice ao n N)/\V.cell? ⟨B,6,none⟩=some (.int .i64 a)/\V.cell? ⟨B,7,none⟩=some (.int .i64 b)):=λV h=>⟨cC t0 h,cC t6 h,cC t7 h⟩
  clear hv hB aa ha O t0 t6 t7;go_enter Tryz.func169,Tryz.ntmps169;go_wp2_with fail;rw[<-hW];clear hW;apply lM
  · intro hK
    go_region_held3 (λV=>V.cell? ⟨B,0,none⟩=some (.slice ao n N)/\V.cell? ⟨B,6,none⟩=some (.int .i64 a)/\V.cell? ⟨B,7,none⟩=some (.int .i64 b)) (first | exact R.out _ (by (repeat (first | with_reducible assumption | with_reducible exact MJ _ _ | with_reducible refine cX ?_ | with_reducible refine MP ?_ (by first | exact MI _ | assumption) _ | with_reducible refine Nr ?_ (by first | exact MI _ | assumption) _)))) (first
      | (go_at_call 155;refine (HC.out _ (by first | exact MJ _ _ | exact cX (MJ _ _) | exact d.out | exact k.out | exact cX d.out)).mono ?_;rintro e r ⟨x,rfl,ab,P,j⟩;have T : Hid (x.i=cY (pl L) a b) := ab;clear ab;have l : Bw W r := (by first | exact j | exact dH j | exact k.out.trans (j.mono k.out.size) | exact d.out.trans ((dH j).mono d.out.size) | exact d.out.trans (j.mono d.out.size));have ad : W.1.size ≤ r.1.size := l.size;(first
        | (have f:r.1[W.1.size]?=some (BZ):=(by first | exact (j.block _ (by simp)).trans (MD W.drew _) | exact (j.block _ (by show _<Array.size _;simp)).trans (MD W _));have f0:=cJ f 0;have f1:=cJ f 1;have f2:=cJ f 2;have f3:=cJ f 3;have f4:=cJ f 4;have f5:=cJ f 5;have f6:=cJ f 6;have f7:=cJ f 7;have ff:=dw f;have U:Hid (r.1[W.1.size]?=some (BZ)):=f;have t:Hid (Good (λb=>W.1.size<b) r x):=P.imp (λb O _=>by simp at O;omega);clear f)
        | (have t:Hid (Good (λb=>w.1.size<b) r x):=P.imp (λb O _=>by first | (simp at O;omega) | omega)));clear j P))
    all_goals first
      | (obtain⟨Y,y⟩ : ∃ Y,Y=r.alloc (jC x) := ⟨_,rfl⟩
         rw[<-y];have H:Bw W Y:=by rw[y];exact l.alloc l.size _
         have I:Good (λb=>w.1.size<b) Y x:=by rw[y];exact t.out.up (qG _ _)
         obtain⟨A,C⟩:=qF r.1.size;have J:Y.1[A]?=some (jC x):=by rw[y,C];exact MD _ _
         have K:W.1.size<=A:=by rw[C];exact ad
         rw[<-C];clear C y)
      | (obtain⟨Y,y⟩ : ∃ Y,Y=((((((((r.setCell ⟨W.1.size,0,none⟩ (.int .i64 x.i.gen)).setCell ⟨W.1.size,1,none⟩ (.int .i64 x.i.kind)).setCell ⟨W.1.size,2,none⟩ (.int .i64 x.i.cH)).setCell ⟨W.1.size,3,none⟩ (.int .i64 x.i.size)).setCell ⟨W.1.size,4,none⟩ (.int .i64 x.i.cF)).setCell ⟨W.1.size,5,none⟩ (.slice x.rp x.rn x.rc)).setCell ⟨W.1.size,6,none⟩ (.slice x.ep x.en x.ec)).setCell ⟨W.1.size,7,none⟩ (.int .i64 x.i.next)) := ⟨_,rfl⟩
         rw[<-y];have u:Y=r.setCells W.1.size 0 (cI x):=y;have H:Bw W Y:=by rw[u];exact da (MI _) _ _ _ l
         have I:Good (λb=>w.1.size<b) Y x:=by rw[u];exact (iO (λh=>Nat.lt_irrefl _ h) _ _ _ t.out).imp (λ_ h _=>Nat.lt_trans Q h)
         obtain⟨A,C⟩:=qF W.1.size;have J:Y.1[A]?=some (jC x):=by rw[u,C];exact dO (cI x) U.out rfl
         have K:W.1.size<=A:=by rw[C];exact MI _
         rw[<-C];clear C y u f0 f1 f2 f3 f4 f5 f6 f7 ff U)
    all_goals
      obtain⟨z,hz⟩:=qF x;rw[<-hz];have g:Hid (Bw W Y/\Y.1[A]?=some (jC z)/\W.1.size<=A/\Good (λb=>w.1.size<b) Y z/\z.i=cY (pl L) a b):=by rw[hz];exact⟨H,J,K,I,T.out⟩
      clear H J I K t T hz;revert g;revert A Y z;exact hK.out
  intro Y A x g;clear R d k HC;have M:=hH<|s.out.trans (g.out.1.mono s.out.size);have o:=hH<|(g.out.1.block _ Q).trans F.out;have ah:=(MH.1 o.out).1;have ai:=(MH.1 g.out.2.1).1;have ag:w.1.size≠A:=by have:=g.out.2.2.1;omega
  have g0:=cJ o.out 0;have g1:=cJ o.out 1;have g2:=cJ o.out 2;have g3:=cJ o.out 3;have g4:=cJ o.out 4;have g5:=cJ o.out 5;have g6:=cJ o.out 6;have g7:=cJ o.out 7;have gg:=dw o.out;obtain⟨X,D⟩:=qF x;have m:Hid (X.i=X.i/\X.i=cY (pl L) a b):=by rw[D];exact⟨rfl,g.out.2.2.2.2⟩
  have Z:Hid (Good (λb=>w.1.size<b) Y X):=by rw[D];exact g.out.2.2.2.1
  have k0:=cJ g.out.2.1 0;have k1:=cJ g.out.2.1 1;have k2:=cJ g.out.2.1 2;have k3:=cJ g.out.2.1 3;have k4:=cJ g.out.2.1 4;have k5:=cJ g.out.2.1 5;have k6:=cJ g.out.2.1 6;have k7:=cJ g.out.2.1 7;simp at g0 g1 g2 g3 g4 g5 g6 g7 k0 k1 k2 k3 k4 k5 k6 k7;clear g F G HV o
  by_cases hf0:fe=0
  · rw[MC hf0]at q
    subst hf0
    by_cases hk:(cY (pl L) a b).kind=kind
    · rw[MC hk]at q
      subst q;have af:(x.i.kind != kind)=false:=by rw[<-D,m.out.2,hk];simp
      have HF:Hid (x.i=cY (pl L) a b):=by rw[<-D];exact m.out.2
      have HG:Hid (Good (λb=>w.1.size<b) Y x):=by rw[<-D];exact Z.out
      clear m D p hk Z;go_wp2
      refine MK (v:=.tuple #[VI x,.int .i64 0]) ?_ rfl ⟨x,rfl,HF.out,?_,?_⟩
      · rw[Nn rfl]
        go_simp
      · exact (iO (A:=w.1.size) (S:=λb=>w.1.size<b) (by simp) (cI x) 0 Y HG.out)
      · repeat (with_reducible refine MP ?_ (by simp) _)
        exact M.out
    · rw[ME hk]at q
      subst q;have af:(x.i.kind != kind)=true:=by rw[<-D,m.out.2];simpa using hk
      clear m D p hk;go_wp2
      refine MK (v:=.tuple #[.agg #[.int .i64 0,.int .i64 0,.int .i64 0,.int .i64 0,.int .i64 0,.slice none 0 0,.slice none 0 0,.int .i64 0],.int .i64 instead]) ?_ rfl ⟨gQ,rfl,rfl,kB _ _,?_⟩
      · rw[Nn rfl]
        go_simp
      · repeat (with_reducible refine MP ?_ (by simp) _)
        exact M.out
  · rw[ME hf0]at q
    subst q;have hz:(fe != 0)=true:=by simpa using hf0
    clear m D p;go_wp2
    refine MK (v:=.tuple #[.agg #[.int .i64 0,.int .i64 0,.int .i64 0,.int .i64 0,.int .i64 0,.slice none 0 0,.slice none 0 0,.int .i64 0],.int .i64 fe]) ?_ rfl ⟨gQ,rfl,rfl,kB _ _,?_⟩
    · rw[Nn rfl]
      go_simp
    · repeat (with_reducible refine MP ?_ (by simp) _)
      exact M.out
theorem oh {S:Nat->Prop}(vi vo vs)(dn cl)(c)(L)(B)(w)(hB:w.1[B]?=some (gj vi vo vs dn cl c))(hv:cD S w vi L) :
  Calls Tryz.prog 157 #[.pointer (some ⟨B,0,none⟩)] w λe w'=>∃ x:Rw,e=.returned (.tuple #[VI x,.int .i64 (Nf.gK (pl L) c.no c.gen 1 405)])/\x.i=(if Nf.gK (pl L) c.no c.gen 1 405=0 then cY (pl L) c.no c.gen else gU)/\Good (λb=>w.1.size<b) w' x/\Bw w w':=by
 have o:=(qL hB);obtain⟨W,n⟩:=qF (w.alloc BZ);have f:Hid _:=qB n;have g:Hid _:=qC n;have k:=qK f hB;have s:Hid _:=hv.up f;have l:=(qL g);obtain⟨E,q⟩:=qE (Nf.gK (pl L) c.no c.gen 1 405);have t:Hid _:=q;rw[q];obtain⟨T,r⟩:=qE (if E=0 then cY (pl L) c.no c.gen else gU);have u:Hid _:=r;rw[r];clear hv hB q r;go_enter Tryz.func157,Tryz.ntmps157;go_wp2_with fail;rw[<-n];clear n;refine (wi vi vo vs dn cl c L B 1 405 W k s qd).mono ?_;rintro e M ⟨x,rfl,d,m,j⟩;rw[t.out]at d |-;rw[u.out]at d;have y:Hid _:=d;have z:Hid _:=m.imp (λ_ h _=>Nat.lt_trans l h);have p:=qJ f j;have a:=qK j g;have C:=cJ a 0;have D:=cJ a 1;have F:=cJ a 2;have G:=cJ a 3;have H:=cJ a 4;have I:=cJ a 5;have J:=cJ a 6;have K:=cJ a 7;have N:=dw a;simp at C D F G H I J K;clear d m j g k s;go_wp2
 refine MK (v:=.tuple #[VI x,.int .i64 E]) ?_ rfl ⟨x,rfl,y,?_,?_⟩
 ·rw[Nn rfl]
  go_simp
 ·exact (iO (A:=w.1.size) (S:=λb=>w.1.size<b) qs (cI x) 0 M z)
 ·repeat (with_reducible refine MP ?_ qs _)
  exact p
theorem eN {row:Option Nat}{w w':World}(h:w.grownBy w' row){p:Addr}(hp:w.1.size<=p.block\/some p.block=row)(u):w.grownBy (w'.setCell p u) row :=
 ⟨h.os,h.tape,h.output,by simpa [World.setCell]using h.size,λk b a=>(MM _ _ _ _ (λe=>by
  rcases hp with hp | hp
  ·omega
  ·exact a (by rw[e];exact hp))).trans (h.block k b a)⟩
theorem Gx {row:Option Nat}{w w':World}(h:w.grownBy w' row)(o):w.grownBy (w'.alloc o) row:=cQ h (MU _ _ _)
theorem wN {row:Option Nat}{w w' w2:World}(h:w.grownBy w' row)(hb:Bw w' w2):w.grownBy w2 row:=cQ h (cP hb row)
theorem ev {w:World}{A:Nat}{e a b k l s t:Int}{d:ByteArray}{v:Value}{n:Int}(h:w.1[A]?=some (Gk e a b k l s t d v n)) :
  w.cell? ⟨A,0,none⟩=some (.int .i64 e)/\w.cell? ⟨A,1,none⟩=some (.int .i64 a)/\w.cell? ⟨A,2,none⟩=some (.int .i64 b)/\w.cell? ⟨A,3,none⟩=some (.int .i64 k)/\w.cell? ⟨A,4,none⟩=some (.int .i64 l)/\w.cell? ⟨A,5,none⟩=some (.int .i64 s)/\w.cell? ⟨A,6,none⟩=some (.int .i64 t)/\w.cell? ⟨A,7,none⟩=some (.string d)/\w.cell? ⟨A,8,none⟩=some v/\w.cell? ⟨A,9,none⟩=some (.int .i64 n):=by
 refine⟨?_,?_,?_,?_,?_,?_,?_,?_,?_,?_⟩ <;> simp[World.cell?,h]
abbrev fJ:Obj:=Gk 0 0 0 0 0 0 0 ⟨#[]⟩ (.slice none 0 0) 0
theorem gD (vi vo vs)(dn cl)(c)(B)(p)(n q)(e0)(w)(hB:w.1[B]?=some (gj vi vo vs dn cl c)) :
  Calls Tryz.prog 163 #[.pointer (some ⟨B,0,none⟩),.slice p n q,.int .i64 e0] w λe w'=>e=.returned (iM e0)/\w'.1[B]?=some (gj (if e0=0 then .slice p n q else vi) vo vs dn cl c)/\w.grownBy w' (some B):=by
 have d:=(MH.1 hB).1;have j:=hH hB
 by_cases h0:e0=0
 ·subst h0
  rw[MC rfl];obtain⟨H,-,-,-,-,-,-,-,-,-,-,-,-,-,-⟩:=gh hB;have E:=zP hB 0;have l:B≠w.1.size:=qo
  clear hB;go_enter Tryz.func163,Tryz.ntmps163;go_wp2
  refine MK (v:=iM 0) ?_ rfl ⟨rfl,?_,?_⟩
  ·rw[cN rfl]
   go_simp
  ·exact (ML _ _ _ (by simpa [World.setCell]using d)).trans (ij j 0 (.slice p n q))
  ·exact Gx (eN (jb _ _) (.inr rfl) _) _
 ·rw[ME h0]
  have F:(e0 != 0)=true:=by simpa using h0
  obtain⟨W,i⟩:=qF (w.alloc fJ);have f:Hid _:=qB i;have g:Hid _:=qC i;have m:=(MH.1 g).1;clear hB h0;go_enter Tryz.func163,Tryz.ntmps163;go_wp2_with fail;rw[<-i];clear i;refine (eV e0 W).mono ?_;rintro e k ⟨rfl,b⟩;have h:=qJ f b;have a:=qK b g;have o:=cJ a 0;have r:=cJ a 1;have s:=cJ a 2;have t:=cJ a 3;have u:=cJ a 4;have x:=cJ a 5;have y:=cJ a 6;have z:=cJ a 7;have A:=cJ a 8;have C:=cJ a 9;have G:=dw a;simp at o r s t u x y z A C;clear b;go_wp2
  refine MK (v:=iM e0) ?_ rfl ⟨rfl,?_,?_⟩
  ·rw[cN rfl]
   go_simp
  ·have D : k.1[B]?=some (gj vi vo vs dn cl c) := (h.block _ d).trans j
   repeat (first | (with_reducible exact D) | refine (MM _ _ _ _ (by show B≠w.1.size;omega)).trans ?_)
  ·repeat (with_reducible refine eN ?_ (.inl qs) _)
   exact cP h _
theorem EX {S : Nat → Prop}(vi vo vs : Value)(dn cl : Int)(c : fw)(L : List Rw)(B : Nat)(w : World)(hB : w.1[B]?=some (gj vi vo vs dn cl c))(hv : cD S w vi L) :
    Calls Tryz.prog 129 #[.pointer (some ⟨B,0,none⟩)] w λe w'=>e=.returned (nr (cM (pl L) c.no c.gen) 0 0 (cY (pl L) c.no c.gen).kind (cY (pl L) c.no c.gen).cH (cY (pl L) c.no c.gen).size (cY (pl L) c.no c.gen).cF ⟨#[]⟩ (.slice none 0 0) 0)/\Bw w w':=by
  have M:=(MH.1 hB).1;have Z:Hid (w.1[B]?=some (gj vi vo vs dn cl c)):=hB;obtain⟨W,K⟩:=qF (w.alloc fJ);have k:Hid _:=qB K;have q:Hid _:=qC K;have l:=hH<|(k.out.block _ M).trans hB;have N:Hid (cD S W vi L):=hv.up k.out;have O:w.1.size<W.1.size:=(MH.1 q.out).1;have ac:B<W.1.size:=(MH.1 l.out).1;have aa:B≠w.1.size:=by omega
  obtain⟨R,-,-,-,-,-,t6,t7,-,-,-,-,-,-,-⟩:=gh l.out;obtain⟨T,y,rfl,-,-⟩:=hv.open;obtain⟨n,H⟩:=qE L.length;rw[H]at R N l Z;have E:Hid (∀ V:World,Bw W V->V.cell? ⟨B,0,none⟩=some (.slice T n y)/\V.cell? ⟨B,6,none⟩=some (.int .i64 c.no)/\V.cell? ⟨B,7,none⟩=some (.int .i64 c.gen)):=λV h=>⟨cC R h,cC t6 h,cC t7 h⟩
  clear hv hB H R t6 t7;obtain⟨fe,C⟩:=qE (cM (pl L) c.no c.gen);obtain⟨U,D⟩:=qE (cY (pl L) c.no c.gen);rw[C,D];have HC:Hid (∀ V,Bw W V->Calls Tryz.prog 155 #[.slice T n y,.agg #[.int .i64 c.no,.int .i64 c.gen]] V λe w'=>∃ x:Rw,e=.returned (.tuple #[VI x,.int .i64 fe])/\x.i=U/\Bw V w'):=λV h=>by
    rw[<-C,<-D];refine (AT _ L c.no c.gen V (N.out.up h)).mono ?_;rintro e w' ⟨x,h1,h2,-,h4⟩;exact⟨x,h1,h2,h4⟩
  clear C D;go_enter Tryz.func129,Tryz.ntmps129;go_wp2_with fail;rw[<-K];clear K;have a:Hid (Bw W (W.alloc (BZ))):=qG _ _;have f:Hid (Bw W (W.drew.alloc (BZ))):=(cX (MJ _ _)).alloc (MI _) _;apply lM
  · intro hK
    go_region_held3 (λV=>V.cell? ⟨B,0,none⟩=some (.slice T n y)/\V.cell? ⟨B,6,none⟩=some (.int .i64 c.no)/\V.cell? ⟨B,7,none⟩=some (.int .i64 c.gen)) (first | exact E.out _ (by (repeat (first | with_reducible assumption | with_reducible exact MJ _ _ | with_reducible refine cX ?_ | with_reducible refine MP ?_ (by first | exact MI _ | assumption) _ | with_reducible refine Nr ?_ (by first | exact MI _ | assumption) _)))) (first
      | (go_at_call 155;refine (HC.out _ (by first | exact MJ _ _ | exact cX (MJ _ _) | exact a.out | exact f.out | exact cX a.out)).mono ?_;rintro e o ⟨x,rfl,I,d⟩;have F : Hid (x.i=U) := I;clear I;have g : Bw W o := (by first | exact d | exact dH d | exact f.out.trans (d.mono f.out.size) | exact a.out.trans ((dH d).mono a.out.size) | exact a.out.trans (d.mono a.out.size));have P : W.1.size ≤ o.1.size := g.size;(first
        | (have b:o.1[W.1.size]?=some (BZ):=(by first | exact (d.block _ (by simp)).trans (MD W.drew _) | exact (d.block _ (by show _<Array.size _;simp)).trans (MD W _));have f0:=cJ b 0;have f1:=cJ b 1;have f2:=cJ b 2;have f3:=cJ b 3;have f4:=cJ b 4;have f5:=cJ b 5;have f6:=cJ b 6;have f7:=cJ b 7;have ff:=dw b;have G:=hH b;clear b)
        | (skip));clear d))
    all_goals first
      | (obtain⟨Y,p⟩ : ∃ Y,Y=o.alloc (jC x) := ⟨_,rfl⟩
         rw[<-p];have r:Bw W Y:=by rw[p];exact g.alloc g.size _
         obtain⟨A,m⟩:=qF o.1.size;have s:Y.1[A]?=some (jC x):=by rw[p,m];exact MD _ _
         have t:W.1.size<=A:=by rw[m];exact P
         rw[<-m];clear m p)
      | (obtain⟨Y,p⟩ : ∃ Y,Y=((((((((o.setCell ⟨W.1.size,0,none⟩ (.int .i64 x.i.gen)).setCell ⟨W.1.size,1,none⟩ (.int .i64 x.i.kind)).setCell ⟨W.1.size,2,none⟩ (.int .i64 x.i.cH)).setCell ⟨W.1.size,3,none⟩ (.int .i64 x.i.size)).setCell ⟨W.1.size,4,none⟩ (.int .i64 x.i.cF)).setCell ⟨W.1.size,5,none⟩ (.slice x.rp x.rn x.rc)).setCell ⟨W.1.size,6,none⟩ (.slice x.ep x.en x.ec)).setCell ⟨W.1.size,7,none⟩ (.int .i64 x.i.next)) := ⟨_,rfl⟩
         rw[<-p];have u:Y=o.setCells W.1.size 0 (cI x):=p;have r:Bw W Y:=by rw[u];exact da (MI _) _ _ _ g
         obtain⟨A,m⟩:=qF W.1.size;have s:Y.1[A]?=some (jC x):=by rw[u,m];exact dO (cI x) G.out rfl
         have t:W.1.size<=A:=by rw[m];exact MI _
         rw[<-m];clear m p u f0 f1 f2 f3 f4 f5 f6 f7 ff G)
    all_goals
      obtain⟨z,X⟩:=qF x;rw[<-X];have j:Hid (Bw W Y/\Y.1[A]?=some (jC z)/\W.1.size<=A/\z.i=U):=by rw[X];exact⟨r,s,t,F.out⟩
      clear r s t F X;revert j;revert A Y z;exact hK.out
  intro Y A x j;clear E a f HC;have Q:=hH<|k.out.trans (j.out.1.mono k.out.size);have J:=hH<|(j.out.1.block _ O).trans q.out;have ad:=(MH.1 J.out).1;have af:=(MH.1 j.out.2.1).1;have ab:w.1.size≠A:=by have:=j.out.2.2.1;omega
  obtain⟨⟨xg,xk,xl,xs,xt,xr,xe,xn⟩,rp,rn,rc,ep,en,ec⟩:=x;have k1:=cJ j.out.2.1 1;have k2:=cJ j.out.2.1 2;have k3:=cJ j.out.2.1 3;have k4:=cJ j.out.2.1 4;simp at k1 k2 k3 k4;have HX:=j.out.2.2.2;simp only at HX;subst HX;have gg:=dw J.out;obtain⟨g0,g1,g2,g3,g4,g5,g6,g7,g8,g9⟩:=ev J.out;clear j q l N J Z;go_wp2
  refine MK (v:=nr fe 0 0 xk xl xs xt ⟨#[]⟩ (.slice none 0 0) 0) ?_ rfl ⟨rfl,?_⟩
  · rw[cN rfl]
    go_simp
  · repeat (with_reducible refine MP ?_ (by simp) _)
    exact Q.out
end Go.Proofs.YtiifhfmekbhlnaaGreat
