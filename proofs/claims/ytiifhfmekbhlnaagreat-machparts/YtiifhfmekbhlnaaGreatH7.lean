/- Part 7. -/
import Derived.Test.YtiifhfmekbhlnaaGreatH6
set_option maxHeartbeats 8000000
set_option maxRecDepth 100000
namespace Go.Proofs.YtiifhfmekbhlnaaGreat
open ChangeShapes WideShapes ChangeAt RowKit Deep It
def Sp.filled (x:cL) (es:List eA) (nx st:Int):cL:=⟨x.gen,x.kind,x.cH,es.length,st,x.runs,es,nx⟩
theorem zq {S T:Nat->Prop}{w:World}{x:Rw}(h:Good S w x){dp:Option Addr}{dn dc:Nat}{es:List eA}(hd:At EE T w (.slice dp dn dc) es)(hl:es.length<=3518437208883)(nx st) :
 JM w ⟨Sp.filled x.i es nx st,x.rp,x.rn,x.rc,dp,dn,dc⟩:=⟨h.1.wide,hd.wide,h.2.2.1,h.2.2.2.1,hl⟩
theorem CT {w:World}{a b:Addr}{v:Value}(h:a≠b):(w.setCell a v).cell? b=w.cell? b:=World.cell?_setCell_other (h:=h) ..
theorem cellS {w:World}{a:Addr}{u v:Value}(h:w.cell? a=some u):(w.setCell a v).cell? a=some v:=World.cell?_setCell_same (h:=h) ..
theorem ye {w w':World}{b j:Nat}(h:w'.1[b]?=w.1[b]?):w'.frozen? ⟨b,j,none⟩=w.frozen? ⟨b,j,none⟩:=by simp only[World.frozen?,h]
theorem G6 {W:World}{X:Nat}{x:Rw}{v:Value}{n:Int}(h:eight W X 0 x) (hf:∀ j,W.frozen? ⟨X,j,none⟩=false) :
  let W2:=((W.setCell ⟨X,6,none⟩ v).setCell ⟨X,7,none⟩ (.int .i64 n)).drew
  (W2.cell? ⟨X,0,none⟩=some (.int .i64 x.i.gen)/\W2.cell? ⟨X,1,none⟩=some (.int .i64 x.i.kind)/\W2.cell? ⟨X,2,none⟩=some (.int .i64 x.i.cH)/\W2.cell? ⟨X,3,none⟩=some (.int .i64 x.i.size) /\
   W2.cell? ⟨X,4,none⟩=some (.int .i64 x.i.cF)/\W2.cell? ⟨X,5,none⟩=some (.slice x.rp x.rn x.rc)/\W2.cell? ⟨X,6,none⟩=some v/\W2.cell? ⟨X,7,none⟩=some (.int .i64 n))/\∀ j,W2.frozen? ⟨X,j,none⟩=false:=by
 obtain⟨c,d,f,g,k,l,m,p⟩:=h;simp only[Nat.zero_add]at c d f g k l m p;have o:∀ j u,j≠6->j≠7->W.cell? ⟨X,j,none⟩=some u->(((W.setCell ⟨X,6,none⟩ v).setCell ⟨X,7,none⟩ (.int .i64 n)).drew).cell? ⟨X,j,none⟩=some u:=λj u a b r=>by
  show ((W.setCell ⟨X,6,none⟩ v).setCell ⟨X,7,none⟩ (.int .i64 n)).cell? ⟨X,j,none⟩=some u;exact (CT (by simp <;> omega)).trans ((CT (by simp <;> omega)).trans r)
 have q:(W.setCell ⟨X,6,none⟩ v).cell? ⟨X,7,none⟩=some (.int .i64 x.i.next):=(CT (by simp)).trans p;refine⟨⟨o 0 _ qd qd c,o 1 _ qd qd d,o 2 _ qd qd f,o 3 _ qd qd g,o 4 _ qd qd k,o 5 _ qd qd l,?_,?_⟩,λj=>?_⟩
 ·show ((W.setCell ⟨X,6,none⟩ v).setCell ⟨X,7,none⟩ (.int .i64 n)).cell? ⟨X,6,none⟩=some v;exact (CT qs).trans (cellS m)
 ·exact cellS q
 ·show ((W.setCell ⟨X,6,none⟩ v).setCell ⟨X,7,none⟩ (.int .i64 n)).frozen? ⟨X,j,none⟩=false;simp only[World.frozen?_setCell];exact hf j
theorem yU {S T:Nat->Prop}(v)(L)(k:Nat)(b nx st:Int)(x:Rw)(dp:Option Addr)(dn dc:Nat)(es:List eA)(w:World)(hv:cD S w v L)(hk:L[k]?=some x)(hd:At EE T w (.slice dp dn dc) es)(hl:es.length<=3518437208883)(he:At.eK x.i.kind x.i.cH x.i.size x.i.cF es.length st=0) :
  Calls Tryz.prog 207 #[v,.agg #[.int .i64 k,.int .i64 b],VD (.slice dp dn dc) nx,.int .i64 st] w λe w'=>∃ u L',e=.returned u/\cD (λb=>w.1.size<=b) w' u L'/\pl L'=iJ (pl L) k b (Sp.filled x.i es nx st)/\Bw w w':=by
 have U:=hH hv;have HD:Hid (At EE T w (.slice dp dn dc) es):=hd;have HL:Hid (es.length<=3518437208883):=hl;obtain⟨ao,P,rfl,hm,hx⟩:=hv.open;obtain⟨⟨bb,Q,rfl,hB,c0,c1,c2,c3,c4,c5,c6,c7⟩,hg⟩:=hx k x hk;have A:(k:Int)<(L.length:Int):=by have:=(qM hk);omega
 have HG:=hH hg;have g:dn=es.length:=by
  obtain⟨_,_,h,_⟩:=hd.open;simp only[Value.slice.injEq]at h;exact h.2.1
 rw[<-g]at he;have V:Hid (At.eK x.i.kind x.i.cH x.i.size x.i.cF dn st=0/\At.kv x.i.kind x.i.cH x.i.size x.i.cF dn st=VA x.i.kind x.i.cH dn st):=⟨he,by unfold At.kv;rw[MC he]⟩;have B:=hH g;unfold maxLen at hm;obtain⟨m,q⟩:=qE L.length;rw[q]at U hm A |-;clear hv hx hg he hk q hd hl g;obtain⟨W,r⟩:=qF (((w.alloc (BH k b)).alloc (BD (.slice dp dn dc) nx)).alloc (jC x));have l:=hH<|show Bw w W by rw[r];exact ((qG _ _).alloc qs _).alloc qt _
 have d:Hid (W.1[w.1.size]?=some (BH k b)/\W.1[w.1.size+1]?=some (BD (.slice dp dn dc) nx)/\W.1[w.1.size+2]?=some (jC x)):=by
  have Y:=MD (w.alloc (BH k b)) (BD (.slice dp dn dc) nx);have t:=MD ((w.alloc (BH k b)).alloc (BD (.slice dp dn dc) nx)) (jC x);rw[show (w.alloc (BH k b)).1.size=w.1.size+1 by simp]at Y;rw[show ((w.alloc (BH k b)).alloc (BD (.slice dp dn dc) nx)).1.size=w.1.size+2 by simp]at t;rw[r];exact⟨(ML _ _ _ qt).trans ((ML _ _ _ qs).trans (MD _ _)),(ML _ _ _ qs).trans Y,t⟩
 have C:w.1.size+2<W.1.size:=by rw[r];simp
 have hD:=l.out;obtain⟨⟨d0,d1⟩,_⟩:=mD d.out.2.1;obtain⟨⟨q0,q1,q2,q3,q4,q5,q6,q7⟩,qf⟩:=dV d.out.2.2;obtain⟨⟨a0,a1⟩,_⟩:=cU d.out.1;clear hD;go_enter Tryz.func207,Tryz.ntmps207;go_wp2_with fail;rw[<-r];clear c0 c1 c2 c3 c4 c5 c6 c7 r
 go_region
 all_goals
  go_wp2_with fail;have t:=G6 (v:=.slice dp dn dc) (n:=nx) (X:=w.1.size+2) (x:=x) ⟨q0,q1,q2,q3,q4,q5,q6,q7⟩ qf;have o:Hid (Bw w ((W.setCell ⟨w.1.size+2,6,none⟩ (.slice dp dn dc)).setCell ⟨w.1.size+2,7,none⟩ (.int .i64 nx)).drew):=by
   have h:Bw w ((W.setCell ⟨w.1.size+2,6,none⟩ (.slice dp dn dc)).setCell ⟨w.1.size+2,7,none⟩ (.int .i64 nx)):=by
    repeat (first | exact l | refine MP ?_ qs _)
   exact⟨h.os,h.tape,h.output,h.size,h.block⟩
  have Z:((W.setCell ⟨w.1.size+2,6,none⟩ (.slice dp dn dc)).setCell ⟨w.1.size+2,7,none⟩ (.int .i64 nx)).drew.1[w.1.size]?=some (BH k b):=by
   show ((W.setCell ⟨w.1.size+2,6,none⟩ (.slice dp dn dc)).setCell ⟨w.1.size+2,7,none⟩ (.int .i64 nx)).1[w.1.size]?=_;rw[MM _ _ _ _ qs,MM _ _ _ _ qs];exact d.out.1
  have D:w.1.size+2<((W.setCell ⟨w.1.size+2,6,none⟩ (.slice dp dn dc)).setCell ⟨w.1.size+2,7,none⟩ (.int .i64 nx)).drew.1.size:=by
   show w.1.size+2<((W.setCell ⟨w.1.size+2,6,none⟩ (.slice dp dn dc)).setCell ⟨w.1.size+2,7,none⟩ (.int .i64 nx)).1.size;simp;exact C
  generalize ((W.setCell ⟨w.1.size+2,6,none⟩ (.slice dp dn dc)).setCell ⟨w.1.size+2,7,none⟩ (.int .i64 nx)).drew=W2 at *;refine (uV _ _ _ _ _ _ _).mono ?_;rintro e z ⟨rfl,f⟩;rw[V.out.1,V.out.2];have c:=f.block _ D;obtain⟨⟨E,F,G,H,I,J,K,M⟩,pf⟩:=t;replace E:=(dJ (p:=⟨w.1.size+2,0,none⟩) c).trans E;replace F:=(dJ (p:=⟨w.1.size+2,1,none⟩) c).trans F;replace G:=(dJ (p:=⟨w.1.size+2,2,none⟩) c).trans G;replace H:=(dJ (p:=⟨w.1.size+2,3,none⟩) c).trans H;replace I:=(dJ (p:=⟨w.1.size+2,4,none⟩) c).trans I;replace J:=(dJ (p:=⟨w.1.size+2,5,none⟩) c).trans J;replace K:=(dJ (p:=⟨w.1.size+2,6,none⟩) c).trans K;replace M:=(dJ (p:=⟨w.1.size+2,7,none⟩) c).trans M;have aa:∀ j,z.frozen? ⟨w.1.size+2,j,none⟩=false:=λj=>(ye c).trans (pf j)
  have N:=qJ o f;have hA:=(f.block w.1.size qo).trans Z;obtain⟨⟨f0,f1⟩,_⟩:=cU hA;clear f pf c Z hA d0 d1 q0 q1 q2 q3 q4 q5 q6 q7 a0 a1 o;go_wp2_with fail;have a:Hid (Bw w ((((z.setCell ⟨w.1.size+2,1,none⟩ (.int .i64 x.i.kind)).setCell ⟨w.1.size+2,2,none⟩ (.int .i64 x.i.cH)).setCell ⟨w.1.size+2,3,none⟩ (.int .i64 dn)).setCell ⟨w.1.size+2,4,none⟩ (.int .i64 st))):=by
   repeat (first | exact N | refine MP ?_ qs _)
  have HC:Hid (Calls Tryz.prog 182 #[.slice (some ⟨bb,Q,none⟩) m P,.agg #[.int .i64 k,.int .i64 b],.agg #[.int .i64 x.i.gen,.int .i64 x.i.kind,.int .i64 x.i.cH,.int .i64 dn,.int .i64 st,.slice x.rp x.rn x.rc,.slice dp dn dc,.int .i64 nx]]
    ((((z.setCell ⟨w.1.size+2,1,none⟩ (.int .i64 x.i.kind)).setCell ⟨w.1.size+2,2,none⟩ (.int .i64 x.i.cH)).setCell ⟨w.1.size+2,3,none⟩ (.int .i64 dn)).setCell ⟨w.1.size+2,4,none⟩ (.int .i64 st))
    λe w'=>xK ((((z.setCell ⟨w.1.size+2,1,none⟩ (.int .i64 x.i.kind)).setCell ⟨w.1.size+2,2,none⟩ (.int .i64 x.i.cH)).setCell ⟨w.1.size+2,3,none⟩ (.int .i64 dn)).setCell ⟨w.1.size+2,4,none⟩ (.int .i64 st)) (pl L) k b (Sp.filled x.i es nx st) e w'):=by
   have h:=qh _ L k b ⟨Sp.filled x.i es nx st,x.rp,x.rn,x.rc,dp,dn,dc⟩ _ (U.up a) (zq (HG.up a) (HD.up a) HL nx st);have e:VI ⟨Sp.filled x.i es nx st,x.rp,x.rn,x.rc,dp,dn,dc⟩=.agg #[.int .i64 x.i.gen,.int .i64 x.i.kind,.int .i64 x.i.cH,.int .i64 dn,.int .i64 st,.slice x.rp x.rn x.rc,.slice dp dn dc,.int .i64 nx]:=by rw[B.out];rfl
   rw[e]at h;exact h
  refine HC.mono ?_;rintro e w3 ⟨u,L',rfl,R,hp,s⟩;have O:=qJ a s;have HT:Hid (cD (λb=>w.1.size<=b) w3 u L'):=⟨R.1.imp λ_ h _=>MS a.size h,λy hy=>(R.2 y hy).imp λ_ h _=>MS a.size h⟩;have HP:Hid _:=hp;clear s R hp E F G H I J K M f0 f1 HC;go_wp2;go_ret;exact⟨u,L',rfl,HT,HP,O⟩
theorem n8 {S:Nat->Prop}(v:Value)(L:List Rw)(k:Nat)(b st:Int)(s:ByteArray) (x:Rw) (w:World) (hv:cD S w v L) (hk:L[k]?=some x) (hn:∀ e∈x.i.cE,e.1.size<=maxLen) (hs:s.size<=maxLen)
  (hf:Fo.cM x.i.cE x.i.next s=0) (he:At.eK x.i.kind x.i.cH x.i.size x.i.cF (x.i.cE.eraseIdx (Fo.gy x.i.cE x.i.next s).toNat).length st=0) :
  Calls Tryz.prog 187 #[v,.agg #[.int .i64 k,.int .i64 b],.string s,.int .i64 st] w λe w'=>∃ u L',e=.returned u/\cD (λb=>w.heap.size<=b) w' u L' /\
   pl L'=iJ (pl L) k b (Sp.filled x.i (x.i.cE.eraseIdx (Fo.gy x.i.cE x.i.next s).toNat) x.i.next st)/\Bw w w':=by
 have I:Hid (cD S w v L):=hv;have Q:Hid (L[k]?=some x):=hk;obtain⟨ao,aa,rfl,M,N⟩:=hv.open;obtain⟨⟨bb,ab,rfl,hB,c0,c1,c2,c3,c4,c5,c6,c7⟩,F⟩:=N k x hk;have A:(k:Int)<(L.length:Int):=by have:=(MN.1 hk).1;omega
 have R:Hid (Good S w x):=F;have J:Hid ((∀ e∈x.i.cE,e.1.size<=maxLen)/\s.size<=maxLen):=⟨hn,hs⟩;have K:Hid ((x.i.cE.eraseIdx (Fo.gy x.i.cE x.i.next s).toNat).length<=3518437208883):=MS (NZ ..) F.2.2.2.2;obtain⟨l,g⟩:=qE (x.i.cE.eraseIdx (Fo.gy x.i.cE x.i.next s).toNat);have B:=hH g;rw[g]at K he |-;have T:=hH hf;have U:=hH he;unfold maxLen at M;obtain⟨m,q⟩:=qE L.length;rw[q]at I M A |-;clear hv N F he hk q hf hn hs g;go_enter Tryz.func187,Tryz.ntmps187;go_wp2_with fail;refine (kN x _).mono ?_;rintro e G ⟨rfl,c⟩;have f:=hH<|((MJ _ w).alloc qn (BH k b)).trans (c.mono qs);have C:=hH<|(c.block _ qs).trans (MD _ _);have V:w.1.size<G.1.size:=by have:=c.size;simp at this;omega
 clear c c0 c1 c2 c3 c4 c5 c6 c7;go_wp2_with fail;refine (A3 _ x.i.cE x.i.next s _ (R.up f).2.1.wide J.out.1 J.out.2).mono ?_;rintro e j ⟨u,rfl,n,d⟩;rw[T.out,MC rfl]at n |-;rw[B.out]at n;have o:=hH<|f.out.trans (d.mono f.size);have D:=qK d C;have W:w.1.size<j.1.size:=by have:=d.size;omega
 obtain⟨r,t,rfl,_,_⟩:=n.open;generalize l.length=un at n |-;have X:Hid (ey EE j (.slice r un t) l):=n.wide;obtain⟨⟨a0,a1⟩,_⟩:=cU D.out;obtain⟨e0,e1⟩:=jL j (.slice r un t) x.i.next;have p:Hid (Bw j (j.alloc (BD (.slice r un t) x.i.next))):=qG _ _;have a:=qJ o p;clear d n;go_wp2_with fail;refine (yU _ L k b x.i.next st x r un t l _ (I.up a) Q (X.up p) K U).mono ?_;rintro e O ⟨u,L',rfl,H,P,z⟩;have E:=qJ a z;have Y:Hid (cD (λb=>w.1.size<=b) O u L'):=⟨H.1.imp λ_ h _=>MS a.size h,λy hy=>(H.2 y hy).imp λ_ h _=>MS a.size h⟩;have Z:=hH P;clear z H P e0 e1 a0 a1;go_wp2;go_ret;exact⟨u,L',rfl,Y,Z,E⟩
theorem cX {B:Nat}{w w':World}(h:Below B w w'):Below B w w'.drew:=⟨h.os,h.tape,h.output,h.size,h.block⟩
theorem Lv {w:World}{A:Nat}{v u:Value}{b d:Int}(h:w.1[A]?=some (BD v b)):((w.setCell ⟨A,0,none⟩ u).setCell ⟨A,1,none⟩ (.int .i64 d)).1[A]?=some (BD u d):=by
 have a:(w.setCell ⟨A,0,none⟩ u).1[A]?=some (BD u b):=by
  rw[setCell_eq_setRow w A 0 _ _ _ _ h,O1 w A _ _ _ _ h];rfl
 rw[setCell_eq_setRow _ A 1 _ _ _ _ a,O1 _ A _ _ _ _ a];rfl
theorem nT {S : Nat → Prop}(v : Value)(L : List Rw)(k : Nat)(b no gen st : Int)(s : ByteArray)(x : Rw)(w : World)(hv : cD S w v L) (hk : L[k]? = some x) (hn : ∀ e ∈ x.i.cE, e.1.size ≤ maxLen) (hs : s.size ≤ maxLen)
    (he:Fo.eM x.i.cE x.i.next s no gen = 0->x.i.cE.length + 1<=3518437208883/\At.eK x.i.kind x.i.cH x.i.size x.i.cF (x.i.cE.length + 1) st = 0) :
    Calls Tryz.prog 184 #[v,.agg #[.int .i64 k,.int .i64 b],.string s,.agg #[.int .i64 no,.int .i64 gen],.int .i64 st] w λe w'=>∃ u L',e = .returned (.tuple #[u,.int .i64 (Fo.eM x.i.cE x.i.next s no gen)])/\cD (λb=>w.heap.size<=b) w' u L' /\
      pl L' = (if Fo.eM x.i.cE x.i.next s no gen = 0 then iJ (pl L) k b (Sp.filled x.i (x.i.cE ++ [(s,x.i.next + 1,no,gen)]) (x.i.next + 1) st) else [])/\Bw w w':=by
  have HV:Hid (cD S w v L):=hv;have HK:Hid (L[k]?=some x):=hk;obtain⟨ao,ar,rfl,hm,hx⟩:=hv.open;obtain⟨⟨j,a,rfl,hB,c0,c1,c2,c3,r,c5,c6,c7⟩,hg⟩:=hx k x hk;have am:(k:Int)<(L.length:Int):=by have:=(MN.1 hk).1;omega
  have HG:Hid (Good S w x):=hg;have HN:Hid ((∀ e∈x.i.cE,e.1.size<=maxLen)/\s.size<=maxLen):=⟨hn,hs⟩;obtain⟨O,J⟩:=qE (Fo.eM x.i.cE x.i.next s no gen);obtain⟨K,Z⟩:=qE (if O=0 then x.i.next+1 else 0);obtain⟨A,aa⟩:=qE (if O=0 then x.i.cE++[(s,x.i.next+1,no,gen)] else []);have ap:Hid ((if O=0 then x.i.next+1 else 0)=K/\(if O=0 then x.i.cE++[(s,x.i.next+1,no,gen)] else [])=A):=⟨Z,aa⟩;have HE:Hid (O=0->x.i.cE.length+1<=3518437208883/\At.eK x.i.kind x.i.cH x.i.size x.i.cF (x.i.cE.length+1) st=0):=λh=>he (J.trans h)
  have ab:Hid (∀ V,ey EE V (.slice x.ep x.en x.ec) x.i.cE->Calls Tryz.prog 206 #[VD (.slice x.ep x.en x.ec) x.i.next,.string s,LR no gen] V λe w'=>∃ p k q,e=.returned (.tuple #[VD (.slice p k q) K,.int .i64 O])/\At EE (λb=>V.1.size<=b) w' (.slice p k q) A/\Bw V w'):=λV h=>(gr _ x.i.cE x.i.next s no gen V h hn hs).mono λe w' ⟨u,he,hu,P⟩=>by
    rw[J,Z]at he;rw[J,aa]at hu;obtain⟨p,q,rfl,-,-⟩:=hu.open;exact⟨_,_,_,he,hu,P⟩
  rw[J];obtain⟨d,M⟩:=qF ((w.alloc (BH k b)).alloc (BH no gen));have z:Hid (Bw w d):=by show Bw w d;rw[M];exact (qG _ _).alloc (by simp) _
  have au:w.1.size+1<d.1.size:=by rw[M];simp
  have ac:Hid (d.1[w.1.size]?=some (BH k b)/\d.1[w.1.size+1]?=some (BH no gen)):=by
    rw[M];refine⟨(ML _ _ _ (by simp)).trans (MD _ _),?_⟩;have:=MD (w.alloc (BH k b)) (BH no gen)
    rwa [show (w.alloc (BH k b)).1.size=w.1.size+1 by simp]at this
  have ad:Hid (∀ w':World,Bw d w'->w'.cell? ⟨w.1.size,0,none⟩=some (.int .i64 k)/\w'.cell? ⟨w.1.size,1,none⟩=some (.int .i64 b)/\w'.cell? ⟨w.1.size+1,0,none⟩=some (.int .i64 no)/\w'.cell? ⟨w.1.size+1,1,none⟩=some (.int .i64 gen)/\w'.cell? ⟨j,a+k*8,none⟩=some (.int .i64 x.i.gen)/\w'.cell? ⟨j,a+k*8+1,none⟩=some (.int .i64 x.i.kind)/\w'.cell? ⟨j,a+k*8+2,none⟩ = some (.int .i64 x.i.cH)/\w'.cell? ⟨j,a + k * 8 + 3,none⟩ = some (.int .i64 x.i.size)/\w'.cell? ⟨j,a + k * 8 + 4,none⟩ = some (.int .i64 x.i.cF)/\w'.cell? ⟨j,a + k * 8 + 5,none⟩ = some (.slice x.rp x.rn x.rc)/\w'.cell? ⟨j,a + k * 8 + 6,none⟩ = some (.slice x.ep x.en x.ec)/\w'.cell? ⟨j,a + k * 8 + 7,none⟩ = some (.int .i64 x.i.next)):=by
    intro w' P;obtain ⟨⟨a0,a1⟩,_⟩:=cU ac.out.1;obtain ⟨⟨g0,g1⟩,_⟩:=cU ac.out.2;obtain ⟨r0,r1,r2,r3,r4,r5,r6,r7⟩:=(show eight w j (a + k * 8) x from ⟨c0,c1,c2,c3,r,c5,c6,c7⟩).below (z.out.trans (P.mono z.out.size)) hB;exact ⟨cC a0 P,cC a1 P,cC g0 P,cC g1 P,r0,r1,r2,r3,r4,r5,r6,r7⟩
  have af:Hid (∀ V,Bw d V->ey EE V (.slice x.ep x.en x.ec) x.i.cE):=λV h=>((HG.out.up z.out).up h).2.1.wide
  have ag:Hid (∀ V,Bw d V->cD S V (.slice (some ⟨j,a,none⟩) L.length ar) L):=λV h=>(HV.out.up z.out).up h
  unfold maxLen at hm;obtain ⟨m,aj⟩:=qE L.length;rw [aj] at HV ag hm am |-;clear hv hx hg he hk aj hn hs J Z aa c0 c1 c2 c3 r c5 c6 c7;have T:Hid (Bw d (d.alloc q8)):=qG _ _;have U:Hid (Bw d (d.drew.alloc q8)):=(cX (MJ _ _)).alloc (MI _) _;go_enter Tryz.func184,Tryz.ntmps184;go_wp2_with fail;rw[<-M];clear M
  go_region_held3 (λw'=>w'.cell? ⟨w.1.size,0,none⟩=some (.int .i64 k)/\w'.cell? ⟨w.1.size,1,none⟩=some (.int .i64 b)/\w'.cell? ⟨w.1.size+1,0,none⟩=some (.int .i64 no)/\w'.cell? ⟨w.1.size+1,1,none⟩=some (.int .i64 gen)/\w'.cell? ⟨j,a+k*8,none⟩=some (.int .i64 x.i.gen)/\w'.cell? ⟨j,a+k*8+1,none⟩=some (.int .i64 x.i.kind)/\w'.cell? ⟨j,a+k*8+2,none⟩=some (.int .i64 x.i.cH)/\w'.cell? ⟨j,a+k*8+3,none⟩=some (.int .i64 x.i.size)/\w'.cell? ⟨j,a+k*8+4,none⟩=some (.int .i64 x.i.cF)/\w'.cell? ⟨j,a+k*8+5,none⟩=some (.slice x.rp x.rn x.rc)/\w'.cell? ⟨j,a+k*8+6,none⟩=some (.slice x.ep x.en x.ec)/\w'.cell? ⟨j,a+k*8+7,none⟩=some (.int .i64 x.i.next)) (first | exact ad.out _ (by (repeat (first | assumption | exact MJ _ _ | refine cX ?_ | refine MP ?_ (by first | exact MI _ | assumption) _ | refine Nr ?_ (by first | exact MI _ | assumption) _)))) (first
    | (go_at_call 104;refine (kN x _).mono ?_;rintro e F ⟨rfl,B⟩;have f:Bw d F:=(by first | exact dH B | exact U.out.trans (B.mono U.out.size) | exact T.out.trans ((dH B).mono T.out.size));have ah:d.1.size<=F.1.size:=f.size;try (have Q:F.1[d.1.size]?=some q8:=(by first | exact (B.block _ (by simp)).trans (MD d.drew q8) | exact (B.block _ (by show _<Array.size _;simp)).trans (MD d q8)));clear B)
    | (go_at_call 206;refine (ab.out _ (by first | exact af.out _ f | exact af.out _ (f.alloc f.size _))).mono ?_;rintro e C ⟨D,E,r,rfl,R,N⟩;have o : Bw d C := (by first | exact f.trans (N.mono f.size) | exact (f.alloc f.size _).trans (N.mono (f.alloc f.size _).size));have av : d.1.size ≤ C.1.size := o.size;(first
      | (have t:C.1[F.1.size]?=some q8:=(N.block _ (by simp)).trans (MD F q8);obtain⟨⟨f0,f1⟩,ff⟩:=mD (v:=.slice none 0 0) (n:=0) t;have W:Hid (C.1[F.1.size]?=some q8):=t;have G:Hid (At EE (λb=>¬ F.1.size=b) C (.slice D E r) A):=R.imp (λb P _=>by simp at P;omega);clear t)
      | (have t:C.1[d.1.size]?=some q8:=(N.block _ (MH.1 Q).1).trans Q;obtain⟨⟨f0,f1⟩,ff⟩:=mD (v:=.slice none 0 0) (n:=0) t;have W:Hid (C.1[d.1.size]?=some q8):=t;have G:Hid (At EE (λb=>¬ d.1.size=b) C (.slice D E r) A):=R.imp (λb P _=>by have aw:=(MH.1 Q).1;omega);clear t Q)
      | (have G:Hid (ey EE C (.slice D E r) A):=R.wide));clear R N))
  all_goals first
      | (obtain⟨l,c⟩ : ∃ l,l=C.alloc (BD (.slice D E r) K) := ⟨_,rfl⟩
         rw[<-c];have H:Hid (Bw d l):=by rw[c];exact o.alloc o.size _
         have X:Hid (ey EE l (.slice D E r) A):=by rw[c];exact G.out.up (qG _ _)
         obtain⟨b9,g⟩:=qF C.1.size;have Y:Hid (l.1[b9]?=some (BD (.slice D E r) K)):=by rw[c,g];exact MD _ _
         rw[<-g];clear g c)
      | (obtain⟨l,c⟩ : ∃ l,l=(C.setCell ⟨F.1.size,0,none⟩ (.slice D E r)).setCell ⟨F.1.size,1,none⟩ (.int .i64 K) := ⟨_,rfl⟩
         rw[<-c];have H:Hid (Bw d l):=by rw[c];exact MP (MP o (show d.1.size<=F.1.size from ah) _) (show d.1.size<=F.1.size from ah) _
         have X:Hid (ey EE l (.slice D E r) A):=by rw[c];exact (At.setCell (At.setCell G.out (by simp) _) (by simp) _).wide
         obtain⟨b9,g⟩:=qF F.1.size;have Y:Hid (l.1[b9]?=some (BD (.slice D E r) K)):=by rw[c,g];exact Lv W.out
         rw[<-g];clear g c f0 f1 ff)
      | (obtain⟨l,c⟩ : ∃ l,l=(C.setCell ⟨d.1.size,0,none⟩ (.slice D E r)).setCell ⟨d.1.size,1,none⟩ (.int .i64 K) := ⟨_,rfl⟩
         rw[<-c];have H:Hid (Bw d l):=by rw[c];exact MP (MP o (show d.1.size<=d.1.size from MI _) _) (show d.1.size<=d.1.size from MI _) _
         have X:Hid (ey EE l (.slice D E r) A):=by rw[c];exact (At.setCell (At.setCell G.out (by simp) _) (by simp) _).wide
         obtain⟨b9,g⟩:=qF d.1.size;have Y:Hid (l.1[b9]?=some (BD (.slice D E r) K)):=by rw[c,g];exact Lv W.out
         rw[<-g];clear g c f0 f1 ff)
  all_goals
    obtain⟨q0,q1,-,-,-,-,-,-,-,-,-,-⟩:=ad.out _ H.out;obtain⟨⟨e0,e1⟩,-⟩:=mD Y.out;have I:=hH<|z.out.trans (H.mono z.size)
    by_cases hz:O=0
    · subst hz
      have HX:Hid (x.i.next+1=K/\x.i.cE++[(s,x.i.next+1,no,gen)]=A):=by
        have h:=ap.out;rw[MC rfl,MC rfl]at h;exact h
      have ai:Hid (A.length<=3518437208883/\At.eK x.i.kind x.i.cH x.i.size x.i.cF A.length st=0):=by
        rw[<-HX.out.2];show _/\_;have h:=HE.out rfl;simpa using h
      go_wp2_with fail;refine (yU _ L k b K st x D E r A _ (ag.out _ H.out) HK.out X.out ai.out.1 ai.out.2).mono ?_;rintro e w7 ⟨u,L',rfl,ht,hp,ak⟩;have aq:=hH<|I.out.trans (ak.mono I.size);have HT:Hid (cD (λb=>w.1.size<=b) w7 u L'):=⟨ht.1.imp λ_ h _=>MS I.out.size h,λy hy=>(ht.2 y hy).imp λ_ h _=>MS I.out.size h⟩;have HP:Hid (pl L'=iJ (pl L) k b (Sp.filled x.i A K st)):=hp;clear ak ht hp e0 e1 q0 q1;go_wp2
      (try simp only[Exit.inBlock,Exit.then])
      refine MK (v:=.tuple #[u,.int .i64 0]) (by simp[results,Tryz.results184,go_sem]) rfl ?_;exact⟨u,rfl,L',HT.out,by rw[HX.out.2,HX.out.1];exact HP.out,aq.out⟩
    · have HZ : Hid (¬ O=0) := hz
      have ax:(O != 0)=true:=by simpa using hz
      clear hz;go_wp2
      (try simp only[Exit.inBlock,Exit.then])
      refine MK (v:=.tuple #[.slice none 0 0,.int .i64 O]) (by simp[results,Tryz.results184,go_sem]) rfl ?_;exact⟨_,rfl,[],eG _ _,rfl,I.out⟩
def iG (C:List cL->Int):Prop:=∀ (S:Nat->Prop) (v:Value) (L:List Rw) (w:World),cD S w v L->Sp.m6 L->Calls Tryz.prog 39 #[v] w λe w'=>e=.returned (.int .i64 (C (pl L)))/\Bw w w'
namespace Sp
def top (L:List cL):Int:=L.foldl (λm x=>max m x.cF) 0
theorem GI {L:List Rw}{k:Nat}{x:Rw}(h:L[k]?=some x):top (pl (L.take (k+1)))=max (top (pl (L.take k))) x.i.cF:=by
 rw[NF,h];simp[top,pl]
def gv (C:List cL->Int) (L:List cL) (st:Int):Int:=if C L=0 then (if top L<=st/\st<=1099511627776 then 0 else 1) else C L
end Sp
theorem iw {C : List cL → Int}(hC : iG C){S : Nat → Prop}(v )(L )(st )(w )(hv : cD S w v L)(eE : Sp.m6 L) :
  Calls Tryz.prog 204 #[v,.int .i64 st] w λe w'=>e=.returned (.int .i64 (Sp.gv C (pl L) st))/\Bw w w':=by
 have p:=hH<|hC S v L w hv eE;obtain⟨N,O,rfl,G,y⟩:=hv.open;clear hv hC eE;unfold maxLen at G;obtain⟨n,q⟩:=qE L.length;rw[q]at G p |-;have D:=hH q;have K:=hH y;obtain⟨z,a⟩:=qE (C (pl L));rw[a]at p
 by_cases hz:z=0
 ·subst hz
  have l:Hid (Sp.gv C (pl L) st=if Sp.top (pl L)<=st/\st<=1099511627776 then 0 else 1):=MC a
  obtain⟨r,I⟩:=qE (Sp.gv C (pl L) st);rw[I]at l |-;clear I a q y;go_enter Tryz.func204,Tryz.ntmps204;go_wp2_with fail;refine p.mono ?_;rintro e A ⟨rfl,c⟩;have d:=hH c;clear c;go_wp2;go_loopw [6,16] (λg i R=>∃ k:Nat,k<=n/\i=.int .i64 k/\g=.int .i64 (Sp.top (pl (L.take k)))/\Hid (Bw w R)) (λ_ i _=>n-(intOf i).toNat)
  case atStart=>exact⟨0,MV _,rfl,rfl,d⟩
  case round =>
   obtain⟨k,T,rfl,rfl,o⟩:=hrel;have s:=o.out.size;obtain⟨g,B⟩:=qE (Sp.top (pl (L.take k)));have m:=hH B;rw[B];clear B
   by_cases hlt:k<n
   ·obtain⟨x,f⟩ : ∃ x,L[k]?=some x := ⟨_,MF (by rw[D.out];exact hlt)⟩
    have t:=hH f;obtain⟨⟨b,h,rfl,P,J⟩,-⟩:=K.out k x f;obtain⟨U,V,W,X,Y,Z,c6,c7⟩:=J.below o P;have E:(k:Int)<(n:Int):=qo
    clear J f;go_wp2;refine⟨⟨k+1,qo,by go_num,?_,o.alloc s _⟩,?_⟩
    ·rw[Sp.GI t,m]
     congr 1
     split <;> omega
    ·simp[intOf]
     omega
   ·obtain rfl : k=n := by omega
    have F:=hH<|show Sp.top (pl L) = g by
     rw[<-m.out,MY (by rw[D.out];exact MI _)]
    by_cases hw:g<=st/\st<=1099511627776
    ·have H : Hid (r=0) := by show r=0;rw[l.out,F,MC hw]
     have u:=hH<|MT hw;clear hw hlt;go_wp2_with fail;refine (sN _ _ _ _).mono ?_;rintro e Q ⟨rfl,j⟩;subst j;rw[u.out];go_wp2;go_ret;rw[H.out];exact⟨rfl,o⟩
    ·have H : Hid (r=1) := by show r=1;rw[l.out,F,ME hw]
     have u:=hH<|MO hw;clear hw hlt;go_wp2_with fail;refine (sN _ _ _ _).mono ?_;rintro e Q ⟨rfl,j⟩;subst j;rw[u.out];go_wp2;go_ret;rw[H.out];exact⟨rfl,o⟩
 ·have l : Hid (Sp.gv C (pl L) st=z) := by show Sp.gv C (pl L) st=_;unfold Sp.gv;rw[ME (by rw[a];exact hz),a]
  have M:(z != 0)=true:=by simpa using hz
  rw[l.out];clear a hz q y;go_enter Tryz.func204,Tryz.ntmps204;go_wp2_with fail;refine p.mono ?_;rintro e A ⟨rfl,c⟩;have d:=hH c;clear c;go_wp2;go_ret;exact⟨rfl,d⟩
namespace Sp
noncomputable def lG (C:List cL->Int) (L:List cL) (a b:Int) (s:ByteArray):Int:=if C L=0 then eY L a b s else C L
noncomputable def ti (C:List cL->Int) (L:List cL) (a b:Int) (s:ByteArray):Int × Int:=if C L=0 then jD L a b s else (0,0)
noncomputable def fT (C:List cL->Int) (L:List cL) (st a b:Int) (s:ByteArray):Int:=if gv C L st=0 then eY L a b s else gv C L st
noncomputable def oQ (C:List cL->Int) (L:List cL) (st a b:Int) (s:ByteArray):Int × Int:=if gv C L st=0 then jD L a b s else (0,0)
noncomputable def dL (C:List cL->Int) (L:List cL) (a b:Int) (s:ByteArray) (kind st:Int):Int:=if gv C L st=0 then (if kind=1\/kind=2 then fH L a b s else 1) else gv C L st
end Sp
theorem Gm {C:List cL->Int}(hC:iG C){S:Nat->Prop}(v)(L)(a b)(s)(w)(hv:cD S w v L)(eE:Sp.m6 L)(hs:s.size<=maxLen) :
  Calls Tryz.prog 153 #[v,.agg #[.int .i64 a,.int .i64 b],.string s] w λe w'=>e=.returned (.tuple #[.agg #[.int .i64 (Sp.ti C (pl L) a b s).1,.int .i64 (Sp.ti C (pl L) a b s).2],.int .i64 (Sp.lG C (pl L) a b s)])/\Bw w w':=by
 obtain⟨W,j⟩:=qF ((w.alloc (BH a b)).alloc (BH 0 0));have g:=hH<|show Bw w W by rw[j];exact (qG _ _).alloc qs _
 have f:Hid (W.1[w.1.size]?=some (BH a b)/\W.1[w.1.size+1]?=some (BH 0 0)):=by
  rw[j];refine⟨(ML _ _ _ qs).trans (MD _ _),?_⟩;have:=MD (w.alloc (BH a b)) (BH 0 0)
  rwa [show (w.alloc (BH a b)).1.size=w.1.size+1 by simp]at this
 have F:w.1.size+1<W.1.size:=by rw[j];simp
 have m:=hH<|hv.up g;obtain⟨H,A,rfl,_,_⟩:=hv.open;have h:=hH eE;have x:=hH hs;have n:=hH hC;clear hv eE hs hC;obtain⟨t,d⟩:=qE (C (pl L));have o:=hH d
 by_cases hz:t=0
 ·subst hz;obtain⟨q,B⟩:=qE (Sp.jD (pl L) a b s);obtain⟨D,k⟩:=qE (Sp.eY (pl L) a b s);have E:Hid (Sp.jD (pl L) a b s=q/\Sp.eY (pl L) a b s=D):=⟨B,k⟩;rw[show Sp.lG C (pl L) a b s=D by unfold Sp.lG;rw[MC d,k],show Sp.ti C (pl L) a b s=q by unfold Sp.ti;rw[MC d,B]];clear B k d;go_enter Tryz.func153,Tryz.ntmps153;go_wp2_with fail;rw[<-j];refine (n S _ L _ m h).mono ?_;rintro e u ⟨rfl,c⟩;rw[o.out];have i:=qJ g c;have p:Hid (u.1[w.1.size]?=some (BH a b)/\u.1[w.1.size+1]?=some (BH 0 0)):=⟨(c.block _ qo).trans f.out.1,(c.block _ qo).trans f.out.2⟩;have r:w.1.size+1<u.1.size:=by have:=c.size;omega
  have y:=hH<|m.out.up c;obtain⟨⟨I,J⟩,_⟩:=cU p.out.1;clear c j m f;go_wp2_with fail;refine (lY _ L a b s _ y h x).mono ?_;rintro e O ⟨rfl,l⟩;rw[E.out.1,E.out.2];have z:=qJ i l;obtain⟨⟨K,M⟩,N⟩:=cU ((l.block _ r).trans p.out.2);clear l I J;go_wp2
  refine MK (v:=.tuple #[.agg #[.int .i64 q.1,.int .i64 q.2],.int .i64 D]) ?_ rfl ⟨rfl,?_⟩
  ·rw[Nn rfl]
   go_simp
  ·repeat (first | exact z | refine MP ?_ qs _)
 ·rw[show Sp.lG C (pl L) a b s=t by unfold Sp.lG;rw[ME (by rw[d];exact hz),d],show Sp.ti C (pl L) a b s=(0,0) by unfold Sp.ti;rw[ME (by rw[d];exact hz)]];have G:(t != 0)=true:=by simpa using hz
  clear hz d;go_enter Tryz.func153,Tryz.ntmps153;go_wp2_with fail;rw[<-j];refine (n S _ L _ m h).mono ?_;rintro e u ⟨rfl,c⟩;rw[o.out];have i:=qJ g c;obtain⟨⟨K,M⟩,N⟩:=cU ((c.block _ qo).trans f.out.2);clear c j m f;go_wp2
  refine MK (v:=.tuple #[.agg #[.int .i64 0,.int .i64 0],.int .i64 t]) ?_ rfl ⟨rfl,?_⟩
  ·rw[Nn rfl]
   go_simp
  ·repeat (first | exact i | refine MP ?_ qs _)
theorem fx {C:List cL->Int}(hC:iG C){S:Nat->Prop}(v)(L)(a b)(s)(st)(w)(hv:cD S w v L)(eE:Sp.m6 L)(hs:s.size<=maxLen) :
  Calls Tryz.prog 186 #[v,.agg #[.int .i64 a,.int .i64 b],.string s,.int .i64 st] w λe w'=>e=.returned (.tuple #[.agg #[.int .i64 (Sp.oQ C (pl L) st a b s).1,.int .i64 (Sp.oQ C (pl L) st a b s).2],.int .i64 (Sp.fT C (pl L) st a b s)])/\Bw w w':=by
 obtain⟨W,j⟩:=qF ((w.alloc (BH a b)).alloc (BH 0 0));have g:=hH<|show Bw w W by rw[j];exact (qG _ _).alloc qs _
 have f:Hid (W.1[w.1.size]?=some (BH a b)/\W.1[w.1.size+1]?=some (BH 0 0)):=by
  rw[j];refine⟨(ML _ _ _ qs).trans (MD _ _),?_⟩;have:=MD (w.alloc (BH a b)) (BH 0 0)
  rwa [show (w.alloc (BH a b)).1.size=w.1.size+1 by simp]at this
 have F:w.1.size+1<W.1.size:=by rw[j];simp
 have m:=hH<|hv.up g;obtain⟨H,A,rfl,_,_⟩:=hv.open;have h:=hH eE;have x:=hH hs;have n:=hH hC;clear hv eE hs hC;obtain⟨t,d⟩:=qE (Sp.gv C (pl L) st);have o:=hH d
 by_cases hz:t=0
 ·subst hz;obtain⟨q,B⟩:=qE (Sp.jD (pl L) a b s);obtain⟨D,k⟩:=qE (Sp.eY (pl L) a b s);have E:Hid (Sp.jD (pl L) a b s=q/\Sp.eY (pl L) a b s=D):=⟨B,k⟩;rw[show Sp.fT C (pl L) st a b s=D by unfold Sp.fT;rw[MC d,k],show Sp.oQ C (pl L) st a b s=q by unfold Sp.oQ;rw[MC d,B]];clear B k d;go_enter Tryz.func186,Tryz.ntmps186;go_wp2_with fail;rw[<-j];refine (iw n _ L st _ m h).mono ?_;rintro e u ⟨rfl,c⟩;rw[o.out];have i:=qJ g c;have p:Hid (u.1[w.1.size]?=some (BH a b)/\u.1[w.1.size+1]?=some (BH 0 0)):=⟨(c.block _ qo).trans f.out.1,(c.block _ qo).trans f.out.2⟩;have r:w.1.size+1<u.1.size:=by have:=c.size;omega
  have y:=hH<|m.out.up c;obtain⟨⟨I,J⟩,_⟩:=cU p.out.1;clear c j m f;go_wp2_with fail;refine (lY _ L a b s _ y h x).mono ?_;rintro e O ⟨rfl,l⟩;rw[E.out.1,E.out.2];have z:=qJ i l;obtain⟨⟨K,M⟩,N⟩:=cU ((l.block _ r).trans p.out.2);clear l I J;go_wp2
  refine MK (v:=.tuple #[.agg #[.int .i64 q.1,.int .i64 q.2],.int .i64 D]) ?_ rfl ⟨rfl,?_⟩
  ·rw[Nn rfl]
   go_simp
  ·repeat (first | exact z | refine MP ?_ qs _)
 ·rw[show Sp.fT C (pl L) st a b s=t by unfold Sp.fT;rw[ME (by rw[d];exact hz),d],show Sp.oQ C (pl L) st a b s=(0,0) by unfold Sp.oQ;rw[ME (by rw[d];exact hz)]];have G:(t != 0)=true:=by simpa using hz
  clear hz d;go_enter Tryz.func186,Tryz.ntmps186;go_wp2_with fail;rw[<-j];refine (iw n _ L st _ m h).mono ?_;rintro e u ⟨rfl,c⟩;rw[o.out];have i:=qJ g c;obtain⟨⟨K,M⟩,N⟩:=cU ((c.block _ qo).trans f.out.2);clear c j m f;go_wp2
  refine MK (v:=.tuple #[.agg #[.int .i64 0,.int .i64 0],.int .i64 t]) ?_ rfl ⟨rfl,?_⟩
  ·rw[Nn rfl]
   go_simp
  ·repeat (first | exact i | refine MP ?_ qs _)
theorem jt {C : List cL → Int}(hC : iG C){S : Nat → Prop}(v : Value)(L : List Rw)(a b : Int)(s : ByteArray)(kind st : Int)(w : World)(hv : cD S w v L)(eE : Sp.m6 L) (hs : s.size ≤ maxLen) :
  Calls Tryz.prog 200 #[v,.agg #[.int .i64 a,.int .i64 b],.string s,.int .i64 kind,.int .i64 st] w λe w'=>e = .returned (.int .i64 (Sp.dL C (pl L) a b s kind st))/\Bw w w':=by
 have d:Hid (Bw w (w.alloc (BH a b))):=qG _ _;have i:Hid ((w.alloc (BH a b)).1[w.1.size]?=some (BH a b)):=MD _ _;obtain⟨W,m⟩:=qF (w.alloc (BH a b));rw[<-m]at d i;have H:w.1.size<W.1.size:=by rw[m];simp
 have l:=hH<|hv.up d;obtain⟨F,z,rfl,_,_⟩:=hv.open;have j:=hH eE;have x:=hH hs;have n:=hH hC;clear hv eE hs hC;obtain⟨A,g⟩:=qE (Sp.gv C (pl L) st);have o:=hH g
 by_cases hz:A=0
 ·subst hz
  obtain⟨G,p⟩:=qE (Sp.fH (pl L) a b s);have y:=hH p
  by_cases hk:kind=1\/kind=2
  ·rw[show Sp.dL C (pl L) a b s kind st=G by unfold Sp.dL;rw[MC g,MC hk,p]]
   clear g p;rcases hk with rfl | rfl
   ·go_enter Tryz.func200,Tryz.ntmps200
    go_wp2_with fail;rw[<-m];refine (iw n _ L st _ l j).mono ?_;rintro e q ⟨rfl,c⟩;rw[o.out];have f:=qJ d c;have r:=qK c i;have t:=hH<|l.out.up c;obtain⟨⟨B,D⟩,_⟩:=cU r;clear c m l i;go_wp2_with fail;refine (gV _ L a b s _ t j x).mono ?_;rintro e E ⟨rfl,k⟩;rw[y.out];have u:=qJ f k;clear k B D;go_wp2;go_ret;exact⟨rfl,u⟩
   ·go_enter Tryz.func200,Tryz.ntmps200
    go_wp2_with fail;rw[<-m];refine (iw n _ L st _ l j).mono ?_;rintro e q ⟨rfl,c⟩;rw[o.out];have f:=qJ d c;have r:=qK c i;have t:=hH<|l.out.up c;obtain⟨⟨B,D⟩,_⟩:=cU r;clear c m l i;go_wp2_with fail;refine (gV _ L a b s _ t j x).mono ?_;rintro e E ⟨rfl,k⟩;rw[y.out];have u:=qJ f k;clear k B D;go_wp2;go_ret;exact⟨rfl,u⟩
  ·rw[show Sp.dL C (pl L) a b s kind st=1 by unfold Sp.dL;rw[MC g,ME hk]]
   have J:(kind != 1)=true:=by simpa using λh=>hk (.inl h)
   have K:(kind != 2)=true:=by simpa using λh=>hk (.inr h)
   clear g p hk;go_enter Tryz.func200,Tryz.ntmps200;go_wp2_with fail;rw[<-m];refine (iw n _ L st _ l j).mono ?_;rintro e q ⟨rfl,c⟩;rw[o.out];have f:=qJ d c;clear c m l i;go_wp2;go_ret;exact⟨rfl,f⟩
 ·rw[show Sp.dL C (pl L) a b s kind st=A by unfold Sp.dL;rw[ME (by rw[g];exact hz),g]]
  have I:(A != 0)=true:=by simpa using hz
  clear hz g;go_enter Tryz.func200,Tryz.ntmps200;go_wp2_with fail;rw[<-m];refine (iw n _ L st _ l j).mono ?_;rintro e q ⟨rfl,c⟩;rw[o.out];have f:=qJ d c;clear c m l i;go_wp2;go_ret;exact⟨rfl,f⟩
noncomputable def Sp.ez (C:List cL->Int) (L:List cL) (a b c d:Int) (s:ByteArray) (st:Int):Int :=
 if gv C L st = 0 then (if cM L a b = 0 then (if (cY L a b).kind = 2 then 405 else if fH L c d s = 0 then (if (cY L a b).cH = 64 then 407 else 0) else fH L c d s) else cM L a b) else gv C L st
variable {C:List cL->Int} {S:Nat->Prop}
theorem lh (hC:iG C)(v)(L)(a b c d)(s)(st)(w)(hv:cD S w v L)(eE:Sp.m6 L)(hs:s.size<=maxLen) :
  Calls Tryz.prog 183 #[v,.agg #[.int .i64 a,.int .i64 b],.agg #[.int .i64 c,.int .i64 d],.string s,.int .i64 st] w λe w'=>e=.returned (.int .i64 (Sp.ez C (pl L) a b c d s st))/\Bw w w':=by
 obtain⟨W,F⟩:=qF ((w.alloc (BH a b)).alloc (BH c d));have t:=hH<|show Bw w W by rw[F];exact (qG _ _).alloc qs _
 have n:Hid (W.1[w.1.size]?=some (BH a b)/\W.1[w.1.size+1]?=some (BH c d)):=by
  rw[F];refine⟨(ML _ _ _ qs).trans (MD _ _),?_⟩;have:=MD (w.alloc (BH a b)) (BH c d)
  rwa [show (w.alloc (BH a b)).1.size=w.1.size+1 by simp]at this
 have ah:w.1.size+1<W.1.size:=by rw[F];simp
 have X:=hH<|hv.up t;obtain⟨ao,z,rfl,_,_⟩:=hv.open;have H:=hH eE;have Y:=hH hs;have Z:=hH hC;clear hv eE hs hC;obtain⟨r,f⟩:=qE (Sp.ez C (pl L) a b c d s st);rw[f];unfold Sp.ez at f;obtain⟨ce,A⟩:=qE (Sp.gv C (pl L) st);have aa:=hH A;obtain⟨fe,B⟩:=qE (cM (pl L) a b);have ab:=hH B;obtain⟨ne,D⟩:=qE (Sp.fH (pl L) c d s);have ac:=hH D;rw[A,B,D]at f;clear A B D
 have m:Hid _:=f;clear f;go_enter Tryz.func183,Tryz.ntmps183;go_wp2_with fail;rw[<-F];refine (iw Z _ L st _ X H).mono ?_;rintro e T ⟨rfl,g⟩;rw[aa.out];have u:=qJ t g
 by_cases hz:ce=0
 case neg=>
  have f:=m.out;rw[ME hz]at f;subst f;have ai:(ce != 0)=true:=by simpa using hz
  clear hz g F X n m;go_wp2;go_ret;exact⟨rfl,u⟩
 subst hz;have I:Hid (T.1[w.1.size]?=some (BH a b)/\T.1[w.1.size+1]?=some (BH c d)):=⟨(g.block _ qo).trans n.out.1,(g.block _ qo).trans n.out.2⟩;have J:w.1.size+1<T.1.size:=by have:=g.size;omega
 have K:=hH<|X.out.up g;obtain⟨⟨U,V⟩,_⟩:=cU I.out.1;clear g F X n;go_wp2_with fail;refine (AT _ L a b _ K).mono ?_;rintro e l ⟨x,rfl,E,-,h⟩;rw[ab.out];have o:=qJ u h
 by_cases hf:fe=0
 case neg=>
  have f:=m.out;rw[MC (by trivial),ME hf]at f;subst f;have aj:(fe != 0)=true:=by simpa using hf
  clear hf h U V E m;go_wp2;go_ret;exact⟨rfl,o.alloc o.size _⟩
 subst hf;have ad:=hH<|(h.block _ J).trans I.out.2;have M:w.1.size+1<l.1.size:=by have:=h.size;omega
 have af:=hH<|K.out.up h;have HK:Hid (x.i.kind=(cY (pl L) a b).kind/\x.i.cH=(cY (pl L) a b).cH):=by rw[E];exact⟨rfl,rfl⟩
 obtain⟨⟨q0,q1,q2,q3,q4,q5,q6,q7⟩,-⟩:=dV (MD l (jC x));clear h U V E;go_wp2_with fail;refine (fk x _).mono ?_;rintro e G ⟨rfl,p⟩;have j:Bw l G:=by rw[p];exact (qG _ _).alloc qs _
 have k:Below (l.alloc (jC x)).1.size (l.alloc (jC x)) G:=by rw[p];exact qG _ _
 have y:=qJ o j
 by_cases hk:(cY (pl L) a b).kind=2
 case pos=>
  have f:=m.out;rw[MC (by trivial),MC (by trivial),MC hk]at f;subst f;rw[show (x.i.kind==2)=true by rw[HK.out.1];simp[hk]];clear hk j k p q0 q1 q2 q3 q4 q5 q6 q7 m;go_wp2;go_ret;exact⟨rfl,y⟩
 have N:=hH<|(k.block _ qs).trans (MD l (jC x));have O:=(qL N);have ag:=hH<|af.out.up j;obtain⟨⟨U,V⟩,_⟩:=cU ((j.block _ M).trans ad);rw[show (x.i.kind==2)=false by rw[HK.out.1];exact MQ.2 hk];have P:=hH hk
 clear hk j k p q0 q1 q2 q3 q4 q5 q6 q7;go_wp2_with fail;refine (gV _ L c d s _ ag H Y).mono ?_;rintro e w4 ⟨rfl,q⟩;rw[ac.out];have Q:=qJ y q
 by_cases hn:ne=0
 case neg=>
  have f:=m.out;rw[MC (by trivial),MC (by trivial),ME P,ME hn]at f;subst f;have ak:(ne != 0)=true:=by simpa using hn
  clear hn q U V m;go_wp2;go_ret;exact⟨rfl,Q⟩
 subst hn;obtain⟨⟨q0,q1,q2,q3,q4,q5,q6,q7⟩,-⟩:=dV ((q.block _ O).trans N);clear q U V
 by_cases hl:(cY (pl L) a b).cH=64
 all_goals
  have f:=m.out;rw[MC (by trivial),MC (by trivial),ME P,MC (by trivial)]at f;first | rw[MC hl]at f | rw[ME hl]at f
  subst f;have R:(x.i.cH==64)=decide ((cY (pl L) a b).cH=64):=by rw[HK.out.2];rfl
  first | rw[MT hl]at R | rw[MO hl]at R
  clear hl m;go_wp2;go_ret;exact⟨rfl,Q⟩
namespace Sp
theorem CJ (L:List cL):∀ m:Int,m<=L.foldl (λm x=>max m x.cF) m/\∀ x∈L,x.cF<=L.foldl (λm x=>max m x.cF) m:=by
 induction L with
 | nil=>exact λm=>⟨Ng _,λx a=>by cases a⟩
 | cons y l ih =>
  intro m;obtain ⟨b,c⟩:=ih (max m y.cF);refine ⟨Oa (by omega) b,λx a=>?_⟩;rcases Ni.1 a with rfl | a
  ·exact Oa qo b
  ·exact c x a
variable {L:List cL} {x:cL}
theorem Be (h:x∈L):x.cF<=top L:=(CJ L 0).2 x h
theorem iY (L:List cL):0<=top L:=(CJ L 0).1
theorem m5 (hr:It.right L=true)(h:x∈L):At.right x.kind x.cH x.size x.cF=true:=by
 have:=(It.cG.1 hr).2.2 x h;unfold It.one at this;simp only[Bool.and_eq_true]at this;exact this.2.1
theorem lH {k:Nat}{st n:Int}(hr:It.right L=true)(hx:L[k]?=some x)(hk:x.kind≠0)(hs:top L<=st/\st<=1099511627776)(hn:0<=n/\n<=1048576):At.eK x.kind x.cH x.size x.cF n st=0:=by
 unfold At.eK;rw[MC (m5 hr (MG hx)),MC ⟨Oa (Be (MG hx)) hs.1,hs.2⟩,ME hk,MC hn]
theorem CG {k:Nat}{st n:Int}(hr:It.right L=true)(hx:L[k]?=some x)(hk:x.kind=1)(hs:top L<=st/\st<=1099511627776)(hn:(n=1/\x.cH<64)\/(n = -1/\0<x.cH)):At.ez x.kind x.cH x.size x.cF n st=0:=by
 have a:=m5 hr (MG hx);have b:=At.cG.1 a;unfold At.dN at b;unfold At.ez;rw[MC a,MC ⟨qo,Oa (Be (MG hx)) hs.1,hs.2⟩,MC hk,ME qo,ME qo]
theorem gL {a b : Int}(h : cM L a b=0) : ∃ (k : Nat) (x : cL), a=k ∧ L[k]?=some x ∧ x.gen=b ∧ x.kind≠0 ∧ cY L a b=x ∧ It.right L=true := by
 have d:=h;unfold cM at h
 by_cases hr:It.right L=true
 ·rw[MC hr]at h
  by_cases hn:names L a b=true
  ·unfold names at hn
   simp only[Bool.and_eq_true,decide_eq_true_eq]at hn;obtain⟨f,c⟩:=hn
   cases hx:L[a.toNat]? with
   | none=>rw[hx]at c;cases c
   | some x =>
    rw[hx]at c;simp only[decide_eq_true_eq]at c;refine⟨a.toNat,x,qo,hx,c.1,c.2,?_,hr⟩;unfold cY;rw[MC d,hx];rfl
  ·rw[ME hn]at h
   exact absurd h qd
 ·rw[ME hr]at h
  exact absurd h qd
theorem jo {a b : Int}(h : eS L a b=0) : ∃ (k : Nat) (x : cL), a=k ∧ L[k]?=some x ∧ x.gen=b ∧ x.kind=2 ∧ fc L a b=x.cE ∧ fy L a b=x.next ∧ cM L a b=0 ∧ It.right L=true := by
 have f:=h;unfold eS at h
 by_cases hf:cM L a b=0
 ·rw[MC hf]at h
  by_cases hk:(cY L a b).kind=2
  ·obtain⟨k,x,c,g,i,-,d,j⟩ := gL hf
   rw[d]at hk;refine⟨k,x,c,g,i,hk,?_,?_,hf,j⟩
   ·unfold fc
    rw[MC f,d]
   ·unfold fy
    rw[MC f,d]
  ·rw[ME hk]at h
   exact absurd h qd
 ·rw[ME hf]at h
  exact absurd h hf
theorem fF {L:List Rw}{k:Nat}(h:(pl L)[k]?=some x):∃ y:Rw,L[k]?=some y/\y.i=x:=by
 rw[Nh]at h
 cases hy:L[k]? with
 | none=>rw[hy]at h;cases h
 | some y =>
  rw[hy]at h;exact⟨y,rfl,by simpa using h⟩
end Sp
namespace Sp
variable {x y:cL} {L:List cL}
theorem gA {k : Nat}(hr : It.right L=true)(hx : L[k]?=some x)(hy : one y=true)(hk : y.kind=x.kind) : It.right (L.set k y)=true := by
 obtain⟨b,a,c⟩:=It.cG.1 hr;refine It.cG.2 ⟨by simpa using b,?_,λz d=>?_⟩
 ·cases L with
  | nil=>simp at hx
  | cons z l =>
   cases k with
   | zero =>
    simp at hx;subst hx;simp only[List.set_cons_zero,ql,decide_eq_true_eq]at a |-;rw[hk];exact a
   | succ k =>
    simp only[List.set_cons_succ,ql]at a |-;exact a
 ·rcases List.mem_or_eq_of_mem_set d with h | rfl
  ·exact c z h
  ·exact hy
theorem tt {k:Nat}(hx:L[k]?=some x):put L k y=L.set k y:=by
 unfold put;rw[MC (MN.1 hx).1]
theorem gX {k:Nat}{b:Int}(hf:cM L k b=0)(hx:L[k]?=some x)(hg:y.gen=b)(h0:y.kind≠0)(hy:one y=true)(hk:y.kind=x.kind):dM L k b y=0/\iJ L k b y=L.set k y:=by
 obtain⟨_,_,_,_,_,_,_,a⟩:=gL hf;have e:put L ((k:Int)).toNat y=L.set k y:=by rw[show ((k:Int)).toNat=k by omega];exact tt hx
 have h:dM L k b y=0:=by
  unfold dM;rw[MC hf,MC ⟨hg,h0⟩,e,MC (gA a hx hy hk)]
 exact⟨h,by unfold iJ;rw[MC h,e]⟩
theorem sH (hk:x.kind=2):one x=true ↔ (1<=x.gen/\x.gen<=1099511627776)/\At.right x.kind x.cH x.size x.cF=true/\x.runs=[]:=by
 unfold one;rw[MC hk];simp
theorem fQ {es:List eA}{nx st:Int}(h:one x=true)(hk:x.kind=2)(hs:0<=st/\st<=1099511627776)(hn:es.length<=1048576):one (filled x es nx st)=true:=by
 obtain⟨b,c,d⟩:=(sH hk).1 h;refine (sH (x:=filled x es nx st) hk).2 ⟨b,?_,d⟩;have a:=At.cG.1 c;refine At.cG.2 ?_;show At.dN x.kind x.cH es.length st;unfold At.dN at a |-;omega
theorem pg {n st:Int}(h:one x=true)(hk:x.kind=1)(hs:0<=st/\st<=1099511627776)(hn:0<=x.cH+n/\x.cH+n<=64):one (linked x n st)=true:=by
 unfold one at h |-;simp only[Bool.and_eq_true]at h |-;obtain⟨b,c,d⟩:=h;refine⟨b,?_,d⟩;have a:=At.cG.1 c;refine At.cG.2 ?_;show At.dN x.kind (x.cH+n) x.size st;unfold At.dN at a |-;omega
end Sp
namespace Sp
def kR (C:List cL->Int):Prop:=∀ L,C L = 0->It.right L = true/\oV L/\(∀ x∈L,x.cE.length<=1536)/\∀ x∈L,∀ e∈x.cE,cM L e.2.2.1 e.2.2.2 = 0/\1<=(cY L e.2.2.1 e.2.2.2).cH/\e.2.2.1≠0
variable {L:List cL} {C:List cL->Int}
theorem iZ {st:Int}(h:gv C L st=0):C L=0/\top L<=st/\st<=1099511627776:=by
 unfold gv at h
 by_cases hc:C L=0
 ·rw[MC hc]at h
  by_cases hs:top L<=st/\st<=1099511627776
  ·exact⟨hc,hs⟩
  ·rw[ME hs]at h;exact absurd h qd
 ·rw[ME hc]at h;exact absurd h hc
theorem AB (L)(a b):eS L a b=0\/eS L a b=404\/eS L a b=401\/eS L a b=4:=by
 unfold eS cM
 repeat' split
 all_goals omega
theorem mO {a b:Int}{s:ByteArray}(h:fH L a b s=0):eS L a b=0/\eY L a b s=402:=by
 unfold fH at h
 by_cases h0:eY L a b s=0
 ·rw[MC h0]at h;exact absurd h qd
 ·rw[ME h0]at h
  by_cases h2:eY L a b s=402
  ·refine⟨?_,h2⟩;have c:=h2;unfold eY at c
   by_cases hd:eS L a b=0
   ·exact hd
   ·rw[ME hd]at c;have:=AB L a b;omega
  ·rw[ME h2]at h;exact absurd h h0
theorem ku {a b c d st:Int}{s:ByteArray}(h:ez C L a b c d s st=0) :
  (C L=0/\top L<=st/\st<=1099511627776)/\cM L a b=0/\(cY L a b).kind≠2/\(cY L a b).cH≠64/\eS L c d=0:=by
 unfold ez at h
 by_cases hs:gv C L st=0
 ·rw[MC hs]at h
  by_cases hf:cM L a b=0
  ·rw[MC hf]at h
   by_cases hk:(cY L a b).kind=2
   ·rw[MC hk]at h;exact absurd h qd
   ·rw[ME hk]at h
    by_cases hn:fH L c d s=0
    ·rw[MC hn]at h
     by_cases hl:(cY L a b).cH=64
     ·rw[MC hl]at h;exact absurd h qd
     ·exact⟨iZ hs,hf,hk,hl,(mO hn).1⟩
    ·rw[ME hn]at h;exact absurd h hn
  ·rw[ME hf]at h;exact absurd h hf
 ·rw[ME hs]at h;exact absurd h hs
noncomputable def ng (C:List cL->Int) (L:List cL) (a b c d:Int) (s:ByteArray) (st:Int):Int :=
 if ez C L a b c d s st = 0 then Fo.eM (fc L c d) (fy L c d) s a b else ez C L a b c d s st
noncomputable def lK (C:List cL->Int) (L:List cL) (a b c d:Int) (s:ByteArray) (st:Int):List cL :=
 if ng C L a b c d s st = 0 then
  (L.set c.toNat (filled (cY L c d) ((cY L c d).cE ++ [(s,(cY L c d).next + 1,a,b)]) ((cY L c d).next + 1) st)).set a.toNat (linked (cY L a b) 1 st)
 else []
end Sp
theorem DC (hC:iG C)(hM:Sp.kR C)(v)(L)(a b c d)(s)(st)(w)(hv:cD S w v L)(eE:Sp.m6 L)(hs:s.size<=maxLen) :
  Calls Tryz.prog 164 #[v,.agg #[.int .i64 a,.int .i64 b],.agg #[.int .i64 c,.int .i64 d],.string s,.int .i64 st] w λe w' =>
   ∃ u L',e=.returned (.tuple #[u,.int .i64 (Sp.ng C (pl L) a b c d s st)])/\cD (λb=>w.1.size<=b) w' u L'/\pl L'=Sp.lK C (pl L) a b c d s st/\Bw w w':=by
 obtain⟨W,Q⟩:=qF ((w.alloc (BH a b)).alloc (BH c d));have M:=hH<|show Bw w W by rw[Q];exact (qG _ _).alloc qs _
 have l:Hid (W.1[w.1.size]?=some (BH a b)/\W.1[w.1.size+1]?=some (BH c d)):=by
  rw[Q];refine⟨(ML _ _ _ qs).trans (MD _ _),?_⟩;have:=MD (w.alloc (BH a b)) (BH c d)
  rwa [show (w.alloc (BH a b)).1.size=w.1.size+1 by simp]at this
 have aX:w.1.size+1<W.1.size:=by rw[Q];simp
 have V:=hH<|hv.up M;obtain⟨ao,aG,rfl,_,_⟩:=hv.open;have N:=hH eE;have G:=hH hs;have ab:=hH hC;have aQ:=hH hM;clear hv eE hs hC hM;obtain⟨le,p⟩:=qE (Sp.ez C (pl L) a b c d s st);have ac:=hH p
 by_cases hz:le=0
 ·subst hz;obtain⟨⟨aH,R,E⟩,hf,aI,Z,hd⟩:=Sp.ku p;obtain⟨hr,aV,aa,-⟩:=aQ.out _ aH;obtain⟨g,xa,rfl,q,ah,ai,aj,-⟩:=Sp.gL hf;obtain⟨n,xc,rfl,m,aJ,ak,aK,aL,al,-⟩:=Sp.jo hd;rw[aj]at aI Z;obtain⟨o,aW,rfl⟩:=Sp.fF q;obtain⟨f,am,rfl⟩:=Sp.fF m;obtain⟨ae,an⟩:=qE (Fo.eM f.i.cE f.i.next s g b);have hE:Sp.ng C (pl L) g b n d s st=ae:=by unfold Sp.ng;rw[MC p,aK,aL,an]
  have ar:=hH an;have X:cY (pl L) n d=f.i:=by
   obtain⟨k',x',h1,h2,-,-,h3,-⟩:=Sp.gL al;obtain rfl:n=k':=qo
   rw[m]at h2;rw[h3];exact (Option.some.inj h2).symm
  have hT:Sp.lK C (pl L) g b n d s st=if ae=0 then ((pl L).set n (Sp.filled f.i (f.i.cE++[(s,f.i.next+1,(g:Int),b)]) (f.i.next+1) st)).set g (Sp.linked o.i 1 st) else []:=by
   unfold Sp.lK;rw[hE,X,aj];rfl
  have ad:=aa f.i (MG m);have Y:Hid (Fo.eM f.i.cE f.i.next s g b=0->f.i.cE.length+1<=3518437208883/\At.eK f.i.kind f.i.cH f.i.size f.i.cF (f.i.cE.length+1) st=0):=λ_=>⟨qo,Sp.lH hr m qo ⟨R,E⟩ ⟨qo,qo⟩⟩
  have O:Hid (L[n]?=some f/\∀ e∈f.i.cE,e.1.size<=maxLen):=⟨am,N f (MG am)⟩;have au:=At.cG.1 (Sp.m5 hr (MG q));unfold At.dN at au;have r:o.i.kind=1:=qo
  have H:=Sp.CG hr q r ⟨R,E⟩ (.inl ⟨rfl,qo⟩);have t:=Oa (Sp.iY _) R;have av:n≠g:=by
   intro h;subst h;rw[q]at m;have:=Option.some.inj m;rw[this]at r;omega
  have z:=(It.cG.1 hr).2.2;have aw:=Sp.gX (y:=Sp.filled f.i (f.i.cE++[(s,f.i.next+1,(g:Int),b)]) (f.i.next+1) st) al m aJ (by show f.i.kind≠0;omega) (Sp.fQ (z _ (MG m)) ak ⟨t,E⟩ qt) rfl;have ax:It.right ((pl L).set n (Sp.filled f.i (f.i.cE++[(s,f.i.next+1,(g:Int),b)]) (f.i.next+1) st))=true:=Sp.gA hr m (Sp.fQ (z _ (MG m)) ak ⟨t,E⟩ (by simp;omega)) rfl;have P:((pl L).set n (Sp.filled f.i (f.i.cE++[(s,f.i.next+1,(g:Int),b)]) (f.i.next+1) st))[g]?=some o.i:=by rw[Oj av];exact q
  have ay:cM ((pl L).set n (Sp.filled f.i (f.i.cE++[(s,f.i.next+1,(g:Int),b)]) (f.i.next+1) st)) g b=0:=by
   unfold cM;rw[MC ax,MC ?_];unfold names;rw[show ((g:Int)).toNat=g by omega,P];simp[ah,ai]
  have az:=Sp.gX (y:=Sp.linked o.i 1 st) ay P ah ai (Sp.pg (z _ (MG q)) r ⟨t,E⟩ qo) rfl;have HP:=hH aw.2;have HQ:=hH az.2;have aA:=hH P;have aR:=hH H;rw[hE,hT];obtain⟨T1,aM⟩:=qE ((pl L).set n (Sp.filled f.i (f.i.cE++[(s,f.i.next+1,(g:Int),b)]) (f.i.next+1) st));rw[aM]at HP HQ aA |-;clear p aH R E hf aI Z hd hr aV aa q ah ai aj m aJ ak aK aL al aW am an hE X hT ad au r H t av z aw ax P ay az aM
  by_cases hz:ae=0
  ·subst hz;rw[MC (by trivial)];go_enter Tryz.func164,Tryz.ntmps164;obtain⟨⟨I,J⟩,_⟩:=cU l.out.1;obtain⟨⟨T,U⟩,_⟩:=cU l.out.2;go_wp2_with fail;rw[<-Q];refine (lh ab _ L g b n d s st _ V N G).mono ?_;rintro e K ⟨rfl,j⟩;rw[ac.out];have A:=qJ M j;have B:Hid (K.1[w.1.size]?=some (BH g b)/\K.1[w.1.size+1]?=some (BH n d)):=⟨(j.block _ qo).trans l.out.1,(j.block _ qo).trans l.out.2⟩;have aB:w.1.size+1<K.1.size:=by have:=j.size;omega
   have af:=hH<|V.out.up j;clear j Q V l I J T U;obtain⟨⟨I,J⟩,_⟩:=cU B.out.1;obtain⟨⟨T,U⟩,_⟩:=cU B.out.2;go_wp2_with fail;refine (nT _ L n d g b st s f _ af O.out.1 O.out.2 G Y).mono ?_;rintro e w2 ⟨u,L1,rfl,ht,hp,F⟩;rw[ar.out]at hp |-;have D:=qJ A F;rw[MC (by trivial),HP.out]at hp;have aC:Hid _:=hp;have aS:Hid _:=ht;have aT:Hid _:=(F.block _ qo).trans B.out.1;obtain⟨y1,aN,aO⟩:=Sp.fF (L:=L1) (k:=g) (x:=o.i) (by rw[aC.out];exact aA);have ag:Hid (L1[g]?=some y1/\y1.i=o.i):=⟨aN,aO⟩;clear F ht hp I J T U aN aO;obtain⟨⟨I,J⟩,_⟩:=cU aT;go_wp2_with fail;refine (wk u L1 g b 1 st y1 _ aS ag.out.1 (by rw[ag.out.2];exact aR)).mono ?_;rintro e w3 ⟨u3,L3,rfl,ap,aq,aP⟩;rw[aC.out,ag.out.2,HQ.out]at aq;have aD:=qJ D aP;have aE:Hid (cD (λb=>w.1.size<=b) w3 u3 L3):=⟨ap.1.imp λ_ h _=>MS D.size h,λy hy=>(ap.2 y hy).imp λ_ h _=>MS D.size h⟩;have aF:Hid _:=aq;clear aP ap aq I J;go_wp2
   refine MK (v:=.tuple #[u3,.int .i64 0]) (by simp[results,Tryz.results164,go_sem]) rfl ?_
   first
    | exact⟨u3,rfl,L3,aE,aF,aD⟩
    | exact⟨u3,L3,rfl,aE,aF,aD⟩
  ·rw[ME hz];have aU:(ae != 0)=true:=by simpa using hz
   clear hz;go_enter Tryz.func164,Tryz.ntmps164;obtain⟨⟨I,J⟩,_⟩:=cU l.out.1;obtain⟨⟨T,U⟩,_⟩:=cU l.out.2;go_wp2_with fail;rw[<-Q];refine (lh ab _ L g b n d s st _ V N G).mono ?_;rintro e K ⟨rfl,j⟩;rw[ac.out];have A:=qJ M j;have B:Hid (K.1[w.1.size]?=some (BH g b)/\K.1[w.1.size+1]?=some (BH n d)):=⟨(j.block _ qo).trans l.out.1,(j.block _ qo).trans l.out.2⟩;have aB:w.1.size+1<K.1.size:=by have:=j.size;omega
   have af:=hH<|V.out.up j;clear j Q V l I J T U;obtain⟨⟨I,J⟩,_⟩:=cU B.out.1;obtain⟨⟨T,U⟩,_⟩:=cU B.out.2;go_wp2_with fail;refine (nT _ L n d g b st s f _ af O.out.1 O.out.2 G Y).mono ?_;rintro e w2 ⟨u,L1,rfl,ht,hp,F⟩;rw[ar.out]at hp |-;have D:=qJ A F;clear F ht hp I J T U;go_wp2
   refine MK (v:=.tuple #[.slice none 0 0,.int .i64 ae]) (by simp[results,Tryz.results164,go_sem]) rfl ?_
   first
    | exact⟨_,rfl,[],eG _ _,rfl,D⟩
    | exact⟨_,[],rfl,eG _ _,rfl,D⟩
 ·have hE:Sp.ng C (pl L) a b c d s st=le:=by unfold Sp.ng;rw[ME (by rw[p];exact hz),p]
  have hT:Sp.lK C (pl L) a b c d s st=[]:=by unfold Sp.lK;rw[ME (by rw[hE];exact hz)]
  rw[hE,hT];have aU:(le != 0)=true:=by simpa using hz
  clear hz hE hT p;go_enter Tryz.func164,Tryz.ntmps164;obtain⟨⟨I,J⟩,_⟩:=cU l.out.1;obtain⟨⟨T,U⟩,_⟩:=cU l.out.2;go_wp2_with fail;rw[<-Q];refine (lh ab _ L a b c d s st _ V N G).mono ?_;rintro e K ⟨rfl,j⟩;rw[ac.out];have A:=qJ M j;clear j Q V l I J T U;go_wp2
  refine MK (v:=.tuple #[.slice none 0 0,.int .i64 le]) (by simp[results,Tryz.results164,go_sem]) rfl ?_
  first
   | exact⟨_,rfl,[],eG _ _,rfl,A⟩
   | exact⟨_,[],rfl,eG _ _,rfl,A⟩
namespace Sp
variable {L:List cL} {b:Int}
theorem qg {a:Int}{s:ByteArray}(h:eY L a b s=0):eS L a b=0/\Fo.cM (fc L a b) (fy L a b) s=0/\jD L a b s=(Fo.found (fc L a b) (fy L a b) s).2.2:=by
 unfold eY at h
 by_cases hd:eS L a b=0
 ·rw[MC hd]at h
  exact⟨hd,h,by unfold jD;rw[MC hd]⟩
 ·rw[ME hd]at h
  exact absurd h hd
theorem jT {C:List cL->Int}(hM:kR C){st a:Int}{s:ByteArray}(h:fT C L st a b s=0) :
  ∃ (kc : Nat) (xc : cL) (j : Nat) (e : eA) (kt : Nat) (xt : cL), a=kc ∧ L[kc]?=some xc ∧ xc.gen=b ∧ xc.kind=2 ∧ cM L a b=0 ∧ Fo.cM xc.cE xc.next s=0 ∧ Fo.gy xc.cE xc.next s=j ∧ xc.cE[j]?=some e ∧
   oQ C L st a b s=e.2.2/\e.2.2.1=kt/\kt≠0/\L[kt]?=some xt/\xt.gen=e.2.2.2/\xt.kind≠0/\1<=xt.cH/\cM L e.2.2.1 e.2.2.2=0/\cY L e.2.2.1 e.2.2.2=xt/\cY L a b=xc /\
   It.right L=true/\(top L<=st/\st<=1099511627776)/\xc.cE.length<=1536:=by
 unfold fT at h
 by_cases hs:gv C L st=0
 ·rw[MC hs]at h
  obtain⟨k,l,m⟩:=iZ hs;obtain⟨F,-,c,n⟩:=hM _ k;obtain⟨G,o,p⟩:=qg h;obtain⟨kc,xc,H,i,I,q,r,t,d,-⟩:=jo G;obtain⟨u,v,J,f,-,-,w,-⟩:=gL d;obtain rfl:kc=u:=qo
  rw[i]at f;obtain rfl:xc=v:=Option.some.inj f;rw[r,t]at o p;rcases Fo.mx xc.cE xc.next s with ⟨j,e,-,B,x,-,-,-,-⟩ | ⟨-,M⟩
  ·rw[Fo.rM o B x]at p
   obtain⟨D,E,N⟩:=n xc (MG i) e (MG x);obtain⟨kt,xt,K,y,z,A,g,-⟩:=gL D;rw[g]at E;exact⟨kc,xc,j,e,kt,xt,H,i,I,q,d,o,B,x,by unfold oQ;rw[MC hs,p],K,qo,y,z,A,E,D,g,w,F,⟨l,m⟩,c xc (MG i)⟩
  ·omega
 ·rw[ME hs]at h
  exact absurd h hs
noncomputable def yN (C:List cL->Int) (L:List cL) (a b:Int) (s:ByteArray) (st:Int):Int :=
 if fT C L st a b s = 0 then (if (cY L (oQ C L st a b s).1 (oQ C L st a b s).2).kind = 2 then (if (cY L (oQ C L st a b s).1 (oQ C L st a b s).2).cE = [] then 0 else 406) else 404) else fT C L st a b s
noncomputable def gd (L:List cL) (a b:Int) (s:ByteArray) (st:Int):List cL :=
 L.set a.toNat (filled (cY L a b) ((cY L a b).cE.eraseIdx (Fo.gy (cY L a b).cE (cY L a b).next s).toNat) (cY L a b).next st)
noncomputable def D3 (C:List cL->Int) (L:List cL) (a b:Int) (s:ByteArray) (st:Int):List cL :=
 if yN C L a b s st = 0 then (gd L a b s st).set (oQ C L st a b s).1.toNat (gone (oQ C L st a b s).2) else []
theorem pr {kc:Nat}{xc:cL}{s:ByteArray}{st:Int}(hr:It.right L=true)(hx:L[kc]?=some xc)(hg:xc.gen=b)(hk:xc.kind=2)(hf:cM L kc b=0)(hs:0<=st/\st<=1099511627776)(hl:xc.cE.length<=1536) :
  iJ L kc b (filled xc (xc.cE.eraseIdx (Fo.gy xc.cE xc.next s).toNat) xc.next st)=L.set kc (filled xc (xc.cE.eraseIdx (Fo.gy xc.cE xc.next s).toNat) xc.next st) /\
   It.right (L.set kc (filled xc (xc.cE.eraseIdx (Fo.gy xc.cE xc.next s).toNat) xc.next st)) = true:=by
 have c:=(It.cG.1 hr).2.2 xc (MG hx);have a:one (filled xc (xc.cE.eraseIdx (Fo.gy xc.cE xc.next s).toNat) xc.next st)=true:=fQ c hk hs (MS (NZ ..) (by omega));exact⟨(gX (y:=filled xc (xc.cE.eraseIdx (Fo.gy xc.cE xc.next s).toNat) xc.next st) hf hx hg (by show xc.kind≠0;omega) a rfl).2,gA hr hx a rfl⟩
theorem zV {k j:Nat}{x y:cL}{g:Int}(hr:It.right (L.set k y)=true)(hx:L[j]?=some x)(hne:k≠j)(hg:x.gen=g)(hk:x.kind≠0):cM (L.set k y) j g=0:=by
 unfold cM;rw[MC hr,MC ?_];unfold names;rw[show ((j:Int)).toNat=j by omega,Oj hne,hx];simp[hg,hk]
end Sp
end Go.Proofs.YtiifhfmekbhlnaaGreat
