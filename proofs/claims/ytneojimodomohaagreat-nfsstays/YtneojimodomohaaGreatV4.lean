/- WithA, Next, Make, MakeB, as one. -/
import Derived.Test.YtneojimodomohaaGreatV3
set_option maxHeartbeats 8000000
set_option maxRecDepth 100000
namespace Go.Proofs.YtneojimodomohaaGreat
open Go.ChangeShapes Go.WideShapes Go.ChangeAt Go.RowKit Go.Deep It
theorem It.put_get {L:List Rw} {no:Nat} {x:Rw} (h:no<=L.length):pl ((L ++ (List.replicate (max L.length (no + 1)) zeroR).drop L.length).set no x) = put (pl L) no x.i:=by
  unfold put;simp only [pl,List.length_map,List.drop_replicate];split
  · rename_i hlt
    rw [show max L.length (no + 1) - L.length = 0 from by omega];simp [List.map_set]
  · have : no = L.length := by omega
    subst this;rw [show max L.length (L.length + 1) - L.length = 1 from by omega];simp
theorem Good.keep {S T:Nat->Prop} {w w':World} {x:Rw} (h:Good S w x) (hs:w.heap.size<=w'.heap.size) (hk:∀ b,S b->b < w.heap.size->w'.heap[b]? = w.heap[b]?/\T b):Good T w' x:=⟨h.1.keep hs hk,h.2.1.keep hs hk,h.2.2⟩
theorem Good.imp {S T:Nat->Prop} {w:World} {x:Rw} (h:Good S w x) (hk:∀ b,S b->b < w.heap.size->T b):Good T w x:=h.keep (Nat.le_refl _) fun b hb hl=>⟨rfl,hk b hb hl⟩
theorem good_zero (S:Nat->Prop) (w:World):Good S w zeroR:=⟨.inl ⟨_,_,rfl,rfl⟩,.inl ⟨_,_,rfl,rfl⟩,⟨fun x hx=>(by cases hx),Nat.zero_le _,Nat.zero_le _⟩⟩
theorem setCells_size (g:Nat):∀ (vs:List Value) (o:Nat) (W:World),(W.setCells g o vs).heap.size = W.heap.size
  | [],_,_=>rfl
  | v :: vs,o,W=>by rw [World.setCells,setCells_size g vs];simp [World.setCell]
theorem setCells_other {g b:Nat} (hne:b≠g):∀ (vs:List Value) (o:Nat) (W:World),(W.setCells g o vs).heap[b]? = W.heap[b]?
  | [],_,_=>rfl
  | v :: vs, o, W => by
    rw [World.setCells,setCells_other hne vs];exact Below.heap_setCell _ _ _ _ hne
theorem below_cells {B g:Nat} {a:World} (hb:B<=g):∀ (vs:List Value) (o:Nat) (w:World),Below B a w->Below B a (w.setCells g o vs)
  | [],_,_,h=>h
  | v :: vs, o, w, h => by
    rw [World.setCells];exact below_cells hb vs (o + 1) _ (h.setCell (p:=⟨g,o,none⟩) hb v)
/-- What holds in each round of with: the row's first k inodes have lists of their own, the others old ones. -/
structure WithAt (w wr:World) (g n k:Nat) (M:List Ino) (R:List Rw):Prop where
  full:Full wr g R
  len:R.length = n
  pl:It.pl R = M
  new:∀ j x,j < k->R[j]? = some x->Good (fun b=>g < b) wr x
  old:∀ j x,k<=j->R[j]? = some x->Good (fun b=>b < w.heap.size) wr x
  below:Bw w wr
theorem WithAt.set {w wr w2:World} {g n k:Nat} {M:List Ino} {R:List Rw} {x x':Rw} (h:WithAt w wr g n k M R) (hk:k < n) (hgw:w.heap.size<=g) (hx:R[k]? = some x) (hi:x'.i = x.i) (hg:Good (fun b=>wr.heap.size<=b) w2 x') (hb:Bw wr w2) :
    WithAt w (w2.setCells g (k * 8) (EI.cells x')) g n (k + 1) M (R.set k x'):=by
  have hgl:g < wr.heap.size:=(Array.getElem?_eq_some_iff.1 h.full).1;have hf2:Full w2 g R:=(hb.block g hgl).trans h.full;have hsz:(w2.setCells g (k * 8) (EI.cells x')).heap.size = w2.heap.size:=setCells_size g _ _ _;have hother:∀ b,b < w2.heap.size->b≠g->(w2.setCells g (k * 8) (EI.cells x')).heap[b]? = w2.heap[b]?:=fun b _ hne=>setCells_other hne _ _ _
  have hbs:=hb.size;refine ⟨hf2.set (by have:=h.len;omega) x',by rw [List.length_set];exact h.len,?_,fun j y hj hy=>?_,fun j y hj hy=>?_,?_⟩
  · rw [← h.pl]
    simp only [It.pl,List.map_set,hi];apply List.ext_getElem?
    intro j;rw [List.getElem?_set];split
    · rename_i e
      subst e;simp [hx];have:=h.len;omega
    · rfl
  · rw [List.getElem?_set] at hy
    split at hy
    · have hy' : x' = y := by simpa [show k < R.length from by have := h.len; omega] using hy
      subst hy';exact hg.keep (by omega) fun b hS hl=>⟨hother b hl (by omega),by omega⟩
    · exact ((h.new j y (by omega) hy).up hb).keep (by omega) fun b hS hl=>⟨hother b hl (by omega),hS⟩
  · rw [List.getElem?_set] at hy
    split at hy
    · omega
    · exact ((h.old j y (by omega) hy).up hb).keep (by omega) fun b hS hl=>⟨hother b hl (by omega),hS⟩
  · exact below_cells hgw (EI.cells x') (k * 8) w2 (h.below.trans (hb.mono h.below.size))
theorem At.belowAt {α:Type} {E:Enc α} {w w':World} {v:Value} {l:List α} {B:Nat} (h:At E (fun b=>b < B) w v l) (hb:Below B w w'):At E (fun b=>b < B) w' v l:=h.keep hb.size fun b hS _=>⟨hb.block b hS,hS⟩
theorem Good.belowAt {w w':World} {x:Rw} {B:Nat} (h:Good (fun b=>b < B) w x) (hb:Below B w w'):Good (fun b=>b < B) w' x:=h.keep hb.size fun b hS _=>⟨hb.block b hS,hS⟩
theorem with_start {w w1:World} {n:Nat} {o:Obj} (hF:Full w1 (w.alloc o).heap.size (List.replicate n zeroR)) (hg:(w.alloc o).grownBy w1 none) (hb:Bw w (w.alloc o)) :
    WithAt w w1 (w.heap.size + 1) n 0 (pl (List.replicate n zeroR)) (List.replicate n zeroR)/\w1.heap[w.heap.size]? = some o:=by
  have hs:(w.alloc o).heap.size = w.heap.size + 1:=by simp
  rw [hs] at hF;refine ⟨⟨hF,by simp,rfl,fun j x hj=>by omega,fun j x _ hx=>?_,hb.trans (below_none hg (by omega))⟩,(hg.block _ (by omega) (by simp)).trans (heap_alloc_new _ _)⟩;have:=List.mem_of_getElem? hx;rw [List.eq_of_mem_replicate this];exact good_zero _ _
theorem with_copy {w w1 w2:World} {n:Nat} {v:Value} {L:List Rw} {o:Obj} (hF:Full w2 (w.heap.size + 1) (L ++ (List.replicate n zeroR).drop L.length)) (hg:w1.grownBy w2 (some (w.heap.size + 1)))
    (h1:WithAt w w1 (w.heap.size + 1) n 0 (pl (List.replicate n zeroR)) (List.replicate n zeroR)/\w1.heap[w.heap.size]? = some o) (hv:TabAt (fun b=>b < w.heap.size) w v L) (hle:L.length<=n) :
    Hid (WithAt w w2 (w.heap.size + 1) n 0 (pl (L ++ (List.replicate n zeroR).drop L.length)) (L ++ (List.replicate n zeroR).drop L.length))/\Hid (w2.heap[w.heap.size]? = some o)/\Hid (Bw w w2):=by
  have hb:Bw w w2:=h1.1.below.grown hg h1.1.below.size (fun k hk=>by simp at hk;omega);refine ⟨⟨hF,by simp;omega,rfl,fun j x hj=>by omega,fun j x _ hx=>?_,hb⟩,(hg.block _ (Array.getElem?_eq_some_iff.1 h1.2).1 (by simp)).trans h1.2,hb⟩;have hm:=List.mem_of_getElem? hx;rcases List.mem_append.1 hm with hm | hm
  · exact (hv.2 x hm).belowAt hb
  · have := List.mem_of_mem_drop hm
    rw [List.eq_of_mem_replicate this];exact good_zero _ _
theorem with_put {w w2:World} {n no:Nat} {M:List Ino} {R:List Rw} {x:Rw} (h:WithAt w w2 (w.heap.size + 1) n 0 M R) (hno:no < n) (hx:Good (fun b=>b < w.heap.size) w x) :
    ∃ w3,w3 = w2.setCells (w.heap.size + 1) (no * 8) (EI.cells x)/\Hid (WithAt w w3 (w.heap.size + 1) n 0 (pl (R.set no x)) (R.set no x)):=by
  refine ⟨_,rfl,⟨h.full.set (by rw [h.len];exact hno) x,by rw [List.length_set];exact h.len,rfl,fun j y hj=>by omega,fun j y _ hy=>?_,below_cells (by omega) _ _ _ h.below⟩⟩;have hk:∀ y,Good (fun b=>b < w.heap.size) w2 y->Good (fun b=>b < w.heap.size) (w2.setCells (w.heap.size + 1) (no * 8) (EI.cells x)) y:=fun y hy =>
    hy.keep (by rw [setCells_size];exact Nat.le_refl _) fun b hS _=>⟨setCells_other (by omega) _ _ _,hS⟩
  rw [List.getElem?_set] at hy;split at hy
  · have hy' : x = y := by simpa [show no < R.length from by rw [h.len]; exact hno] using hy
    subst hy';exact hk x (hx.belowAt h.below)
  · exact hk y (h.old j y (Nat.zero_le _) hy)
theorem WithAt.tab {w wr:World} {g n:Nat} {M:List Ino} {R:List Rw} (h:WithAt w wr g n n M R) (hg:w.heap.size<=g) (hn:n<=25):TabAt (fun b=>w.heap.size<=b) wr (.slice (some ⟨g,0,none⟩) n n) R:=by
  have hgl:g < wr.heap.size:=(Array.getElem?_eq_some_iff.1 h.full).1;have hl:=h.len;refine ⟨?_,fun y hy=>?_⟩
  · by_cases hp : 0 < n
    · refine .inr ⟨g, 0, n, by rw [hl], hg, hgl, by omega, by omega, by unfold maxLen; omega, fun j u hj => ?_⟩
      have:=h.full;unfold Full at this;simp [World.cell?,this,hj]
    · have h0 : R = [] := List.eq_nil_of_length_eq_zero (by omega)
      exact .inl ⟨_,_,by rw [show n = 0 by omega],h0⟩
  · obtain ⟨j, hj⟩ := List.mem_iff_getElem?.1 hy
    have hjl:j < R.length:=(List.getElem?_eq_some_iff.1 hj).1;exact (h.new j y (by omega) hj).imp fun b hb _=>by omega
theorem with_any {S : Nat → Prop} (v : Value) (L : List Rw) (no : Nat) (x : Rw) (w : World) (hv : TabAt S w v L) (hx : Good S w x) (hL : L.length ≤ 24) (hno : no ≤ L.length) :
    Calls Tryz.prog 188 #[v,.int .i64 no,VI x] w fun e w'=>∃ u L',e = .returned u/\TabAt (fun b=>w.heap.size<=b) w' u L'/\pl L' = put (pl L) no x.i/\Bw w w':=by
  obtain ⟨i0,hi,hz0,hz1,hz2⟩:=info_parts infoI;have HP:=It.put_get (x:=x) hno;have hv0:TabAt (fun b=>b < w.heap.size) w v L:=⟨hv.1.imp fun b _ hb=>hb,fun y hy=>(hv.2 y hy).imp fun b _ hb=>hb⟩;have hx0:Good (fun b=>b < w.heap.size) w x:=hx.imp fun b _ hb=>hb
  obtain ⟨ao,cap,rfl,_,_⟩:=hv.open;obtain ⟨n,hn⟩:=qE (max L.length (no + 1));have hmx:max (L.length:Int) ((no:Int) + 1) = (n:Int):=by omega
  have HL:Hid (L.length<=n/\no < n/\n<=25/\no<=L.length):=⟨by omega,by omega,by omega,hno⟩;rw [hn] at HP;obtain ⟨m,hm⟩:=qE L.length;have HM:Hid (L.length = m):=hm;rw [hm] at hmx ⊢;rw [hm] at hv0;have HV:Hid (TabAt (fun b=>b < w.heap.size) w (.slice ao m cap) L):=hv0;have HX:Hid (Good (fun b=>b < w.heap.size) w x):=hx0;have HPP:Hid (pl ((L ++ (List.replicate n zeroR).drop L.length).set no x) = put (pl L) no x.i):=HP;obtain ⟨⟨g,k,l,s,t,rs,es,nx⟩,rp,rn,rc,ep,en,ec⟩:=x;have HBW:Hid (Bw w (w.alloc (B8 g k l s t (.slice rp rn rc) (.slice ep en ec) nx))):=qG _ _;have hcase:(no < m/\Hid (n = m))∨(m<=no/\Hid (n = no + 1)):=by
    rcases Nat.lt_or_ge no m with h | h
    · exact .inl ⟨h,show n = m by omega⟩
    · exact .inr ⟨by omega,show n = no + 1 by omega⟩
  have hm24:m<=24:=by omega
  have hno25:no<=25:=by omega
  have hn25:n<=25:=by omega
  have hnon:(no:Int) < (n:Int):=by omega
  clear hv hx hv0 hx0 HP hm hn hno hL hmx;rcases hcase with ⟨hlt,HNM⟩ | ⟨hlt,HNM⟩
  all_goals
    go_enter Tryz.func188,Tryz.ntmps188
    go_wp2_with (first
      | (at_make
         refine wpList_make_tab _ rfl _ _ 22 rfl i0 Tryz.underlying22 hi hz0 hz1 hz2 _ _ n rfl rfl (by have:=HNM.out;omega) (by have:=HNM.out;omega) HL.out.2.2.1 ?_;intro w1 hF1 hg1;have HW1:Hid (WithAt w w1 (w.heap.size + 1) n 0 (pl (List.replicate n zeroR)) (List.replicate n zeroR)/\w1.heap[w.heap.size]? = some (B8 g k l s t (.slice rp rn rc) (.slice ep en ec) nx)):=with_start hF1 hg1 HBW.out)
      | (refine wpList_copy_tab _ rfl _ _ 22 rfl i0 Tryz.underlying22 hi hz1 (w.heap.size + 1) n n rfl _ rfl (fun b => b < w.heap.size) L (List.replicate n zeroR) (HV.out.1.belowAt HW1.out.1.below) HW1.out.1.full HW1.out.1.len HL.out.1 ?_
         intro w2 m2 hF2 hg2;obtain ⟨HW2,HX2,HL2⟩:=with_copy hF2 hg2 HW1.out HV.out HL.out.1;obtain ⟨q0,q1,q2,q3,q4,q5,q6,q7⟩:=(eight_of HX2.out).1)
      | (refine wpList_store_mid rfl 58 _ _ rfl (w.heap.size + 1) (no * 8) #[.int .i64 g, .int .i64 k, .int .i64 l, .int .i64 s, .int .i64 t, .slice rp rn rc, .slice ep en ec, .int .i64 nx] rfl rfl (HW2.out.full.there (by rw [HW2.out.len]; exact HL.out.2.1)) (by kernel_rfl) (all_oneCell_toArray (EI.one ⟨⟨g, k, l, s, t, rs, es, nx⟩, rp, rn, rc, ep, en, ec⟩)) ?_
         obtain ⟨w3,hw3,HW3⟩:=with_put HW2.out HL.out.2.1 HX.out;rw [show (#[Value.int .i64 g,.int .i64 k,.int .i64 l,.int .i64 s,.int .i64 t,.slice rp rn rc,.slice ep en ec,.int .i64 nx]:Array Value).toList = EI.cells ⟨⟨g,k,l,s,t,rs,es,nx⟩,rp,rn,rc,ep,en,ec⟩ from rfl,← hw3];clear hw3 HW1 HW2 HX2 HL2 hF1 hg1 hF2 hg2 q0 q1 q2 q3 q4 q5 q6 q7))
    go_loopw [24] (fun i wr=>∃ (j:Nat) (R:List Rw),j<=n/\i = .int .i64 j/\Hid (WithAt w wr (w.heap.size + 1) n j (pl ((L ++ (List.replicate n zeroR).drop L.length).set no ⟨⟨g,k,l,s,t,rs,es,nx⟩,rp,rn,rc,ep,en,ec⟩)) R)) (fun i _=>n - (intOf i).toNat)
    case atStart=>exact ⟨0,_,Nat.zero_le _,rfl,HW3⟩
    case round =>
      obtain ⟨j,R,hj,rfl,HR⟩:=hrel
      by_cases hjn:j < n
      · obtain ⟨y, hy⟩ : ∃ y, R[j]? = some y := ⟨_, List.getElem?_eq_getElem (by rw [HR.out.len]; exact hjn)⟩
        have HY:Hid (R[j]? = some y):=hy;obtain ⟨c0,c1,c2,c3,c4,c5,c6,c7⟩:=HR.out.full.at hy;have HGY:Hid (Good (fun b=>b < w.heap.size) wr y):=HR.out.old j y (Nat.le_refl _) hy;have hjI:(j:Int) < (n:Int):=by omega
        clear hy
        go_wp2_with (first
          | (go_at_call 144
             refine (own_any y _ HGY.out).mono ?_;rintro e w4 ⟨y',rfl,hyi,hyg,hb4⟩;have HW4:Hid (WithAt w (w4.setCells (w.heap.size + 1) (j * 8) (EI.cells y')) (w.heap.size + 1) n (j + 1) (pl ((L ++ (List.replicate n zeroR).drop L.length).set no ⟨⟨g,k,l,s,t,rs,es,nx⟩,rp,rn,rc,ep,en,ec⟩)) (R.set j y')):=HR.out.set hjn (by omega) HY.out hyi hyg hb4;have HF4:Hid (w4.there (w.heap.size + 1) (j * 8) 8):=Full.there ((hb4.block _ (Array.getElem?_eq_some_iff.1 HR.out.full).1).trans HR.out.full) (by rw [HR.out.len];exact hjn);clear hyi hyg hb4)
          | (refine wpList_store_mid rfl 58 _ _ rfl (w.heap.size + 1) (j * 8) #[.int .i64 y'.i.gen, .int .i64 y'.i.kind, .int .i64 y'.i.links, .int .i64 y'.i.size, .int .i64 y'.i.stamp, .slice y'.rp y'.rn y'.rc, .slice y'.ep y'.en y'.ec, .int .i64 y'.i.next] rfl rfl HF4.out (by kernel_rfl) (all_oneCell_toArray (EI.one y')) ?_
             rw [show (#[.int .i64 y'.i.gen,.int .i64 y'.i.kind,.int .i64 y'.i.links,.int .i64 y'.i.size,.int .i64 y'.i.stamp,.slice y'.rp y'.rn y'.rc,.slice y'.ep y'.en y'.ec,.int .i64 y'.i.next]:Array Value).toList = EI.cells y' from rfl];generalize w4.setCells (w.heap.size + 1) (j * 8) (EI.cells y') = w5 at HW4))
        go_roundw
        case rel=>exact ⟨j + 1,_,by omega,by go_num,HW4⟩
        case measure=>simp [intOf];omega
      · obtain rfl : j = n := by omega
        go_wp2;go_ret;refine ⟨_,R,rfl,HR.out.tab (by omega) HL.out.2.2.1,by rw [HR.out.pl];exact HPP.out,HR.out.below⟩
def It.bare (i:Ino):Rw:=⟨i,none,0,0,none,0,0⟩
theorem good_bare (S:Nat->Prop) (w:World) {i:Ino} (h1:i.runs = []) (h2:i.ents = []):Good S w (It.bare i):=by
 refine ⟨.inl ⟨_,_,rfl,h1⟩,.inl ⟨_,_,rfl,h2⟩,?_⟩;unfold It.bare okI;simp only;rw [h1,h2];exact ⟨fun x hx=>(by cases hx),Nat.zero_le _,Nat.zero_le _⟩
theorem fresh_any (a b c:Int) (w:World):Calls Tryz.prog 91 #[.int .i64 a,.int .i64 b,.int .i64 c] w fun e w'=>e = .returned (VI (It.bare (fresh a b c)))/\Bw w w':=by
 go_enter Tryz.func91,Tryz.ntmps91;go_wp2
 (try simp only [Exit.inBlock,Exit.then])
 refine bodyPost_ret (v:=.agg #[.int .i64 a,.int .i64 b,.int .i64 1,.int .i64 0,.int .i64 c,.slice none 0 0,.slice none 0 0,.int .i64 0]) ?_ rfl ⟨rfl,?_⟩
 ·rw [results_cell1 rfl]
  go_simp
 ·exact qG _ _
theorem one_tab (S:Nat->Prop) (w:World) (B:Nat) (x:Rw) (hS:S B) (h:w.heap[B]? = some (.cells (EI.cells x).toArray 58 (0,0))):At EI S w (.slice (some ⟨B,0,none⟩) 1 1) [x]:=by
 refine .inr ⟨B,0,1,rfl,hS,(qL h),by simp,by simp,by simp [maxLen],fun j u hj=>?_⟩;have hj':(EI.cells x)[j]? = some u:=by simpa [Enc.flat] using hj
 simp [World.cell?,h,hj']
theorem new_any (w:World):Calls Tryz.prog 42 #[] w fun e w'=>∃ u L,e = .returned u/\TabAt (fun b=>w.heap.size<=b) w' u L/\pl L = It.new/\Bw w w':=by
 go_enter Tryz.func42,Tryz.ntmps42;go_wp2_with fail;refine (fresh_any 1 2 0 _).mono ?_;rintro e w1 ⟨rfl,hb1⟩;have HB1:Hid _:=hb1;clear hb1;go_wp2;go_ret;refine ⟨_,[It.bare (fresh 1 2 0)],rfl,⟨one_tab _ _ _ _ HB1.out.size ?_,fun x hx=>?_⟩,rfl,HB1.out.alloc HB1.out.size _⟩
 ·exact heap_alloc_new w1 _
 ·simp at hx;subst hx;exact good_bare _ _ rfl rfl
theorem two_of {w:World} {A:Nat} {a b:Int} (h:w.heap[A]? = some (BH a b)):(w.cell? ⟨A,0,none⟩ = some (.int .i64 a)/\w.cell? ⟨A,1,none⟩ = some (.int .i64 b))/\∀ j,w.frozen? ⟨A,j,none⟩ = false:=by
 refine ⟨⟨?_,?_⟩,fun j=>?_⟩ <;> simp [World.cell?,World.frozen?,h]
theorem next_any {S:Nat->Prop} (v:Value) (L:List Rw) (w:World) (hv:TabAt S w v L) (hr:It.right (pl L) = true) :
  Calls Tryz.prog 203 #[v] w fun e w'=>e = .returned (VH (next (pl L)))/\Bw w w':=by
 obtain ⟨ao,cap,rfl,hm,hx⟩:=hv.open;clear hv;unfold maxLen at hm;have HR:Hid (∀ x∈L,one x.i = true):=fun x hx=>(It.right_iff.1 hr).2.2 x.i (List.mem_map.2 ⟨x,hx,rfl⟩)
 obtain ⟨n,hn⟩:=qE L.length;rw [hn] at hm ⊢;have HN:Hid _:=hn;have HX:Hid _:=hx;obtain ⟨W,hW⟩:=qF (w.alloc (BH 0 0));have HB0:Hid _:=qB hW;have HA0:Hid _:=qC hW;have hws:w.heap.size < W.heap.size:=by rw [hW];simp
 clear hn hx hr;go_enter Tryz.func203,Tryz.ntmps203;go_wp2;rw [← hW];clear hW;go_loopw [7] (fun i wr=>∃ k:Nat,k<=n/\i = .int .i64 k/\(∀ j x,j < k->(pl L)[j]? = some x->¬ (x.kind = 0/\x.gen < 1099511627776))/\Bw W wr) (fun i _=>n - (intOf i).toNat)
 case atStart=>exact ⟨0,Nat.zero_le _,rfl,fun j x hj=>by omega,Below.refl _ _⟩
 case round =>
  obtain ⟨k,hk,rfl,hno,hbl⟩:=hrel;have HNO:Hid _:=hno;have hsz:=hbl.size;have HBW:=qJ HB0 hbl;have HA1:Hid _:=(hbl.block _ hws).trans HA0.out;clear hno
  by_cases hlt:k < n
  ·obtain ⟨y,hyk⟩:∃ y,L[k]? = some y:=⟨_,List.getElem?_eq_getElem (by rw [HN.out];exact hlt)⟩;obtain ⟨⟨b,off,rfl,hB,hc⟩,_⟩:=HX.out k y hyk;obtain ⟨d0,d1,d2,d3,d4,d5,d6,d7⟩:=hc.below HBW.out hB;have HYK:Hid _:=It.pl_get hyk;have HO:=HR.out y (List.mem_of_getElem? hyk);have hbd:=It.one_bd HO;obtain ⟨⟨g,kk,l,s,t,rs,es,nx⟩,rp,rn,rc,ep,en,ec⟩:=y;simp only at d0 d1 d2 d3 d4 d5 d6 d7 hbd HYK;have HA2:Hid ((wr.alloc (B8 g kk l s t (.slice rp rn rc) (.slice ep en ec) nx)).heap[w.heap.size]? = some (BH 0 0)):=(Below.heap_alloc _ _ _ (by omega)).trans HA1.out;obtain ⟨⟨a0,a1⟩,af⟩:=two_of HA2.out;have hlt':(k:Int) < (n:Int):=by omega
   obtain ⟨hg1,hg2⟩:=hbd;clear hyk hc HO hB
   by_cases hkd:kk = 0
   ·by_cases hge:g < 1099511627776
    ·have HE:Hid _:=It.next_here HYK.out HNO.out ⟨hkd,hge⟩;have hkd':(kk == 0) = true:=by simp [hkd]
     clear hkd;go_wp2
     (try simp only [Exit.inBlock,Exit.then])
     refine bodyPost_ret (v:=.agg #[.int .i64 k,.int .i64 (g + 1)]) ?_ rfl ⟨by rw [HE.out],?_⟩
     ·rw [results_cell1 rfl]
      go_simp
     ·exact ((HBW.out.alloc HBW.out.size _).setCell (p:=⟨w.heap.size,0,none⟩) (Nat.le_refl _) _).setCell (p:=⟨w.heap.size,1,none⟩) (Nat.le_refl _) _
    ·have hkd':(kk == 0) = true:=by simp [hkd]
     have HN2:Hid (∀ j x,j < k + 1->(pl L)[j]? = some x->¬ (x.kind = 0/\x.gen < 1099511627776)):=fun j x hj hx hq=>by
      rcases Nat.lt_or_ge j k with h | h
      ·exact HNO.out j x h hx hq
      ·obtain rfl:j = k:=by omega
       rw [HYK.out] at hx
       cases hx
       exact hge hq.2
     clear hkd;go_wp2
     go_roundw
     case rel=>exact ⟨k + 1,by omega,by go_num,HN2.out,hbl.alloc hsz _⟩
     case measure=>simp [intOf];omega
   ·have hkd':(kk == 0) = false:=by simp [hkd]
    have HN2:Hid (∀ j x,j < k + 1->(pl L)[j]? = some x->¬ (x.kind = 0/\x.gen < 1099511627776)):=fun j x hj hx hq=>by
     rcases Nat.lt_or_ge j k with h | h
     ·exact HNO.out j x h hx hq
     ·obtain rfl:j = k:=by omega
      rw [HYK.out] at hx
      cases hx
      exact hkd hq.1
    clear hkd;go_wp2
    go_roundw
    case rel=>exact ⟨k + 1,by omega,by go_num,HN2.out,hbl.alloc hsz _⟩
    case measure=>simp [intOf];omega
  ·obtain rfl:k = n:=by omega
   have HE:Hid (next (pl L) = ((k:Int),1)):=by
    have h:=It.next_none (L:=pl L) (fun i x hi hx=>HNO.out i x (by simp only [pl,List.length_map,HN.out] at hi;exact hi) hx);simp only [pl,List.length_map,HN.out] at h;exact h
   obtain ⟨⟨a0,a1⟩,af⟩:=two_of HA1.out;go_wp2
   (try simp only [Exit.inBlock,Exit.then])
   refine bodyPost_ret (v:=.agg #[.int .i64 k,.int .i64 1]) ?_ rfl ⟨by rw [HE.out],?_⟩
   ·rw [results_cell1 rfl]
    go_simp
   ·exact (HBW.out.setCell (p:=⟨w.heap.size,0,none⟩) (Nat.le_refl _) _).setCell (p:=⟨w.heap.size,1,none⟩) (Nat.le_refl _) _
theorem It.right_of_find {L:List Ino} {no gen:Int} (h:findErr L no gen = 0):It.right L = true/\names L no gen = true:=by
 unfold findErr at h;split at h
 ·rename_i hr
  split at h
  ·rename_i hn
   exact ⟨hr,hn⟩
  ·cases h
 ·cases h
theorem It.named {L:List Rw} {no gen:Int} (h:names (pl L) no gen = true):∃ (k:Nat) (x:Rw),no = (k:Int)/\L[k]? = some x/\x.i.gen = gen/\x.i.kind≠0/\k < L.length:=by
 obtain ⟨i,x,hx,hn,hg,hk⟩:=It.names_iff.1 h;simp only [pl,List.getElem?_map,Option.map_eq_some_iff] at hx;obtain ⟨y,hy,rfl⟩:=hx;exact ⟨i,y,hn,hy,hg,hk,(qM hy)⟩
theorem It.right_len {L:List Rw} (h:It.right (pl L) = true):L.length<=24:=by
 have:=(It.right_iff.1 h).1;simpa [pl] using this.2
theorem TabAt.wide {S:Nat->Prop} {w:World} {v:Value} {L:List Rw} (h:TabAt S w v L):TabW w v L:=⟨h.1.wide,fun x hx=>(h.2 x hx).imp fun _ _ _=>trivial⟩
theorem TabAt.imp {S T:Nat->Prop} {w:World} {v:Value} {L:List Rw} (h:TabAt S w v L) (hk:∀ b,S b->b < w.heap.size->T b):TabAt T w v L:=⟨h.1.imp hk,fun x hx=>(h.2 x hx).imp hk⟩
theorem TabAt.more {A B:Nat} {w:World} {v:Value} {L:List Rw} (h:TabAt (fun b=>B<=b) w v L) (hk:A<=B):TabAt (fun b=>A<=b) w v L:=h.imp fun _ hb _=>Nat.le_trans hk hb
theorem tab_nil (S:Nat->Prop) (w:World):TabAt S w (.slice none 0 0) []:=⟨At.nil,fun x hx=>by cases hx⟩
theorem find_any {S:Nat->Prop} (v:Value) (L:List Rw) (a b:Int) (w:World) (hv:TabAt S w v L) :
  Calls Tryz.prog 94 #[v,.agg #[.int .i64 a,.int .i64 b]] w fun e w'=>∃ x:Rw,e = .returned (.tuple #[VI x,.int .i64 (findErr (pl L) a b)])/\x.i = findI (pl L) a b/\GoodW w' x/\Bw w w':=by
 obtain ⟨W,hW⟩:=qF ((w.alloc (BH a b)).alloc BZ);have HB0:Hid (Bw w W):=by show Bw w W;rw [hW];exact (qG _ _).alloc (by simp) _
 have HA0:Hid (W.heap[w.heap.size]? = some (BH a b)/\W.heap[w.heap.size + 1]? = some BZ):=by
  rw [hW];refine ⟨(Below.heap_alloc _ _ _ (by simp)).trans (heap_alloc_new _ _),?_⟩;have:=heap_alloc_new (w.alloc (BH a b)) BZ
  rwa [show (w.alloc (BH a b)).heap.size = w.heap.size + 1 by simp] at this
 have hws:w.heap.size + 1 < W.heap.size:=by rw [hW];simp
 have HV:Hid (TabAt S W v L):=hv.up HB0.out;obtain ⟨⟨a0,a1⟩,_⟩:=two_of HA0.out.1;obtain ⟨ao,cap,rfl,_,_⟩:=hv.open;clear hv;obtain ⟨fe,hfe⟩:=qE (findErr (pl L) a b);have HFE:Hid (findErr (pl L) a b = fe):=hfe;rw [hfe]
 by_cases hz:fe = 0
 ·rw [hz] at hfe HFE;subst hz;obtain ⟨hr,hn⟩:=It.right_of_find hfe;obtain ⟨k,x,rfl,hxk,hg,hk,hkl⟩:=It.named hn;have HX:Hid (findI (pl L) k b = x.i):=by
   show findI (pl L) k b = x.i;unfold findI;rw [if_pos hfe,show ((k:Int)).toNat = k from by omega,It.pl_get hxk];rfl
  obtain ⟨m,hm⟩:=qE L.length;have hkI:(k:Int) < (m:Int):=by omega
  rw [hm] at HV ⊢;have HXK:Hid (L[k]? = some x):=hxk;clear hfe hr hn hxk hg hk hkl hm;go_enter Tryz.func94,Tryz.ntmps94;go_wp2_with fail;rw [← hW];refine (refuse_any _ L k b _ HV.out).mono ?_;rintro e w1 ⟨rfl,hb1⟩;rw [HFE.out];have HB1:=qJ HB0 hb1;have HA1:Hid (w1.heap[w.heap.size]? = some (BH k b)/\w1.heap[w.heap.size + 1]? = some BZ):=⟨(hb1.block _ (by omega)).trans HA0.out.1,(hb1.block _ (by omega)).trans HA0.out.2⟩;have HV1:Hid (TabAt S w1 (.slice ao m cap) L):=HV.out.up hb1;have hws1:w.heap.size + 1 < w1.heap.size:=by have:=hb1.size;omega
  obtain ⟨⟨e0,e1⟩,_⟩:=two_of HA1.out.1;obtain ⟨ao',cap',hv',_,hx'⟩:=HV1.out.open;obtain ⟨⟨bb,off,hbo,hB,hc⟩,hgx⟩:=hx' k x HXK.out;simp only [Value.slice.injEq] at hv';obtain ⟨rfl,_,rfl⟩:=hv';subst hbo;obtain ⟨c0,c1,c2,c3,c4,c5,c6,c7⟩:=hc;have HGX:Hid _:=hgx;clear hb1 hx' hgx hW a0 a1 HV HA0;go_wp2_with fail;refine (own_any x _ HGX.out).mono ?_;rintro e w2 ⟨y,rfl,hyi,hyg,hb2⟩;have HB2:=qJ HB1 hb2;have HA2:Hid _:=(hb2.block _ hws1).trans HA1.out.2;have HY:Hid (y.i = findI (pl L) k b/\Good (fun b=>w1.heap.size<=b) w2 y):=⟨hyi.trans HX.out.symm,hyg⟩;have HS1:Hid _:=hws1;obtain ⟨⟨z0,z1,z2,z3,z4,z5,z6,z7⟩,zf⟩:=eight_of HA2.out;obtain ⟨⟨g,kk,l,s,t,rs,es,nx⟩,rp,rn,rc,ep,en,ec⟩:=y;clear hyi hyg hb2 e0 e1 c0 c1 c2 c3 c4 c5 c6 c7;go_wp2
  (try simp only [Exit.inBlock,Exit.then])
  refine bodyPost_ret (v:=.tuple #[.agg #[.int .i64 g,.int .i64 kk,.int .i64 l,.int .i64 s,.int .i64 t,.slice rp rn rc,.slice ep en ec,.int .i64 nx],.int .i64 0]) ?_ rfl ⟨⟨⟨g,kk,l,s,t,rs,es,nx⟩,rp,rn,rc,ep,en,ec⟩,rfl,HY.out.1,?_,?_⟩
  ·rw [results_cell_tmp rfl]
   go_simp
  ·have hS:=HS1.out;refine ⟨?_,?_,HY.out.2.2.2⟩
   ·refine At.imp (S:=fun b=>w1.heap.size<=b) ?_ (fun _ _ _=>trivial)
    repeat (refine At.setCell ?_ (by simp;omega) _)
    exact HY.out.2.1
   ·refine At.imp (S:=fun b=>w1.heap.size<=b) ?_ (fun _ _ _=>trivial)
    repeat (refine At.setCell ?_ (by simp;omega) _)
    exact HY.out.2.2.1
  ·repeat (refine Below.setCell ?_ (by simp) _)
   exact HB2.out
 ·have HX:Hid (findI (pl L) a b = zeroI):=by
   show findI (pl L) a b = zeroI;unfold findI;rw [if_neg (by rw [hfe];exact hz)]
  have hz':(fe == 0) = false:=by simp [hz]
  clear hz hfe;go_enter Tryz.func94,Tryz.ntmps94;go_wp2_with fail;rw [← hW];refine (refuse_any _ L a b _ HV.out).mono ?_;rintro e w1 ⟨rfl,hb1⟩;rw [HFE.out];have HB1:=qJ HB0 hb1;have HA1:Hid _:=(hb1.block _ (by omega)).trans HA0.out.2;obtain ⟨⟨z0,z1,z2,z3,z4,z5,z6,z7⟩,zf⟩:=eight_of HA1.out;clear hb1 hW a0 a1;go_wp2
  (try simp only [Exit.inBlock,Exit.then])
  refine bodyPost_ret (v:=.tuple #[.agg #[.int .i64 0,.int .i64 0,.int .i64 0,.int .i64 0,.int .i64 0,.slice none 0 0,.slice none 0 0,.int .i64 0],.int .i64 fe]) ?_ rfl ⟨zeroR,rfl,HX.out.symm,good_zero _ _,?_⟩
  ·rw [results_cell_tmp rfl]
   go_simp
  ·repeat (refine Below.setCell ?_ (by simp) _)
   exact HB1.out
theorem drop_any {S:Nat->Prop} (v:Value) (L:List Rw) (a b:Int) (w:World) (hv:TabAt S w v L) :
  Calls Tryz.prog 158 #[v,.agg #[.int .i64 a,.int .i64 b]] w fun e w'=>∃ u L',e = .returned (.tuple #[u,.int .i64 (dropErr (pl L) a b)])/\TabAt (fun b=>w.heap.size<=b) w' u L'/\pl L' = dropTab (pl L) a b/\Bw w w':=by
 obtain ⟨W,hW⟩:=qF (w.alloc (BH a b));have HB0:Hid _:=qB hW;have HA0:Hid _:=qC hW;have hws:w.heap.size < W.heap.size:=by rw [hW];simp
 have HV:Hid (TabAt S W v L):=hv.up HB0.out;obtain ⟨⟨a0,a1⟩,_⟩:=two_of HA0.out;obtain ⟨ao,cap,rfl,_,_⟩:=hv.open;clear hv;obtain ⟨fe,hfe⟩:=qE (findErr (pl L) a b);have HFE:Hid (findErr (pl L) a b = fe):=hfe
 by_cases hz:fe = 0
 ·rw [hz] at hfe HFE;subst hz;obtain ⟨hr,hn⟩:=It.right_of_find hfe
  by_cases ha:a = 0
  ·have HE:Hid (dropErr (pl L) a b = 1/\dropTab (pl L) a b = []):=by
    have:dropErr (pl L) a b = 1:=by unfold dropErr;rw [if_pos hfe,if_pos ha]
    exact ⟨this,by unfold dropTab;rw [this];rfl⟩
   rw [HE.out.1,HE.out.2];subst ha;clear hfe hr hn HE;go_enter Tryz.func158,Tryz.ntmps158;go_wp2_with fail;rw [← hW];refine (refuse_any _ L 0 b _ HV.out).mono ?_;rintro e w1 ⟨rfl,hb1⟩;rw [HFE.out];have HB1:=qJ HB0 hb1;have HA1:=qK hb1 HA0;obtain ⟨⟨e0,e1⟩,_⟩:=two_of HA1.out;clear hb1 hW a0 a1;go_wp2
   go_ret2
   exact ⟨_,[],rfl,tab_nil _ _,rfl,HB1.out⟩
  ·have hde:dropErr (pl L) a b = 0:=by unfold dropErr;rw [if_pos hfe,if_neg ha]
   have HE:Hid (dropTab (pl L) a b = put (pl L) a.toNat (gone b)):=by show dropTab (pl L) a b = _;unfold dropTab;rw [if_pos hde]
   rw [hde,HE.out];obtain ⟨k,x,rfl,hxk,hg,hk,hkl⟩:=It.named hn;rw [show ((k:Int)).toNat = k from by omega];have ha':((k:Int) == 0) = false:=by simpa using ha
   have HK:Hid (k<=L.length/\L.length<=24):=⟨by omega,It.right_len hr⟩;clear hfe hr hn HE hde hxk hg hk hkl ha;go_enter Tryz.func158,Tryz.ntmps158;go_wp2_with fail;rw [← hW];refine (refuse_any _ L k b _ HV.out).mono ?_;rintro e w1 ⟨rfl,hb1⟩;rw [HFE.out];have HB1:=qJ HB0 hb1;have HA1:=qK hb1 HA0;have HV1:Hid (TabAt S w1 (.slice ao L.length cap) L):=HV.out.up hb1;obtain ⟨⟨e0,e1⟩,_⟩:=two_of HA1.out;clear hb1 hW a0 a1;go_wp2_with fail;refine (with_any _ L k (It.bare (gone b)) _ HV1.out (good_bare _ _ rfl rfl) HK.out.2 HK.out.1).mono ?_;rintro e w2 ⟨u,L',rfl,ht,hpl,hb2⟩;have HE:Hid (TabAt (fun b=>w.heap.size<=b) w2 u L'/\pl L' = put (pl L) k (gone b)/\Bw w w2):=⟨ht.more HB1.out.size,hpl,HB1.out.trans (hb2.mono HB1.out.size)⟩;clear ht hpl hb2;go_wp2
   go_ret2
   exact ⟨_,_,rfl,HE.out⟩
 ·have HE:Hid (dropErr (pl L) a b = fe/\dropTab (pl L) a b = []):=by
   have:dropErr (pl L) a b = fe:=by unfold dropErr;rw [hfe,if_neg hz]
   exact ⟨this,by unfold dropTab;rw [this,if_neg hz]⟩
  rw [HE.out.1,HE.out.2];have hz':(fe == 0) = false:=by simp [hz]
  clear hz hfe HE;go_enter Tryz.func158,Tryz.ntmps158;go_wp2_with fail;rw [← hW];refine (refuse_any _ L a b _ HV.out).mono ?_;rintro e w1 ⟨rfl,hb1⟩;rw [HFE.out];have HB1:=qJ HB0 hb1;clear hb1 hW a0 a1;go_wp2
  go_ret2
  exact ⟨_,[],rfl,tab_nil _ _,rfl,HB1.out⟩
theorem It.arg_of {kind stamp:Int} (h:argOk kind stamp = true):(kind = 1∨kind = 2)/\(0<=stamp/\stamp<=1099511627776):=by
 unfold argOk at h;simp only [Bool.and_eq_true,decide_eq_true_eq] at h;exact h
theorem It.arg_not {kind stamp:Int} (h:¬ ((kind = 1∨kind = 2)/\(0<=stamp/\stamp<=1099511627776))):argOk kind stamp = false:=by
 cases hq:argOk kind stamp with
 | false=>rfl
 | true=>exact absurd (It.arg_of hq) h
def MakeSaid (w:World) (L:List Ino) (kind stamp:Int) (e:Ending) (w':World):Prop :=
 ∃ u L',e = .returned (.tuple #[u,VH (makeH L kind stamp),.int .i64 (makeErr L kind stamp)])/\TabAt (fun b=>w.heap.size<=b) w' u L'/\pl L' = makeTab L kind stamp/\Bw w w'
theorem make_said {w w':World} {L:List Ino} {kind stamp:Int} {e:Ending} {er:Int} (h:makeErr L kind stamp = er) (hz:er≠0) (he:e = .returned (.tuple #[.slice none 0 0,.agg #[.int .i64 0,.int .i64 0],.int .i64 er])) (hb:Bw w w'):MakeSaid w L kind stamp e w':=by
 refine ⟨_,[],?_,tab_nil _ _,?_,hb⟩
 ·rw [he];unfold makeH;rw [h,if_neg hz]
 ·unfold makeTab;rw [h,if_neg hz];rfl
theorem make_form {S:Nat->Prop} (v:Value) (L:List Rw) (kind stamp:Int) (w:World) (hv:TabAt S w v L) (hr:¬ It.right (pl L) = true) :
  Calls Tryz.prog 186 #[v,.int .i64 kind,.int .i64 stamp] w fun e w'=>MakeSaid w (pl L) kind stamp e w':=by
 obtain ⟨W,hW⟩:=qF (w.alloc (BH 0 0));have HB0:Hid _:=qB hW;have HA0:Hid _:=qC hW;have hws:w.heap.size < W.heap.size:=by rw [hW];simp
 have HV:Hid _:=hv.up HB0.out;have HC:Hid (It.checkErr (pl L) = 4):=by show It.checkErr (pl L) = 4;unfold It.checkErr;rw [if_neg hr]
 have HE:Hid (makeErr (pl L) kind stamp = 4):=by show makeErr (pl L) kind stamp = 4;unfold makeErr;rw [if_neg hr]
 obtain ⟨ao,cap,rfl,_,_⟩:=hv.open;clear hv hr;go_enter Tryz.func186,Tryz.ntmps186;go_wp2_with fail;rw [← hW];refine (check_any _ L _ HV.out).mono ?_;rintro e w1 ⟨rfl,hb1⟩;rw [HC.out];have HB1:=qJ HB0 hb1;have HA1:Hid _:=(hb1.block _ hws).trans HA0.out;obtain ⟨⟨e0,e1⟩,ef⟩:=two_of HA1.out;clear hb1 hW;go_wp2
 (try simp only [Exit.inBlock,Exit.then])
 refine bodyPost_ret (v:=.tuple #[.slice none 0 0,.agg #[.int .i64 0,.int .i64 0],.int .i64 4]) ?_ rfl (make_said HE.out (by decide) rfl ?_)
 ·rw [results_tct rfl]
  go_simp
 ·repeat (refine Below.setCell ?_ (by simp) _)
  exact HB1.out
theorem make_arg {S:Nat->Prop} (v:Value) (L:List Rw) (kind stamp:Int) (w:World) (hv:TabAt S w v L) (hr:It.right (pl L) = true) (ha:¬ ((kind = 1∨kind = 2)/\(0<=stamp/\stamp<=1099511627776))) :
  Calls Tryz.prog 186 #[v,.int .i64 kind,.int .i64 stamp] w fun e w'=>MakeSaid w (pl L) kind stamp e w':=by
 obtain ⟨W,hW⟩:=qF (w.alloc (BH 0 0));have HB0:Hid _:=qB hW;have HA0:Hid _:=qC hW;have hws:w.heap.size < W.heap.size:=by rw [hW];simp
 have HV:Hid _:=hv.up HB0.out;have HC:Hid (It.checkErr (pl L) = 0):=by show It.checkErr (pl L) = 0;unfold It.checkErr;rw [if_pos hr]
 have HE:Hid (makeErr (pl L) kind stamp = 1):=by show makeErr (pl L) kind stamp = 1;unfold makeErr;rw [if_pos hr,if_neg (by rw [It.arg_not ha];decide)]
 obtain ⟨ao,cap,rfl,_,_⟩:=hv.open;clear hv hr;have hcase:((kind != 1) = true/\(kind != 2) = true)∨((kind = 1∨kind = 2)/\Hid (¬ (0<=stamp/\stamp<=1099511627776))):=by
  by_cases h1:kind = 1
  ·exact .inr ⟨.inl h1,fun h=>ha ⟨.inl h1,h⟩⟩
  ·by_cases h2:kind = 2
   ·exact .inr ⟨.inr h2,fun h=>ha ⟨.inr h2,h⟩⟩
   ·exact .inl ⟨by simp [h1],by simp [h2]⟩
 clear ha;rcases hcase with ⟨h1,h2⟩ | ⟨rfl | rfl,HS⟩
 ·go_enter Tryz.func186,Tryz.ntmps186;go_wp2_with fail;rw [← hW];refine (check_any _ L _ HV.out).mono ?_;rintro e w1 ⟨rfl,hb1⟩;rw [HC.out];have HB1:=qJ HB0 hb1;have HA1:Hid _:=(hb1.block _ hws).trans HA0.out;obtain ⟨⟨e0,e1⟩,ef⟩:=two_of HA1.out;clear hb1 hW;go_wp2
  (try simp only [Exit.inBlock,Exit.then])
  refine bodyPost_ret (v:=.tuple #[.slice none 0 0,.agg #[.int .i64 0,.int .i64 0],.int .i64 1]) ?_ rfl (make_said HE.out (by decide) rfl ?_)
  ·rw [results_tct rfl]
   go_simp
  ·repeat (refine Below.setCell ?_ (by simp) _)
   exact HB1.out
 all_goals
  go_enter Tryz.func186,Tryz.ntmps186;go_wp2_with fail;rw [← hW];refine (check_any _ L _ HV.out).mono ?_;rintro e w1 ⟨rfl,hb1⟩;rw [HC.out];have HB1:=qJ HB0 hb1;have HA1:Hid _:=(hb1.block _ hws).trans HA0.out;obtain ⟨⟨e0,e1⟩,ef⟩:=two_of HA1.out;clear hb1 hW;go_wp2_with fail;refine (within_no _ _ _ _ HS.out).mono ?_;rintro e w' ⟨rfl,rfl⟩;go_wp2
  (try simp only [Exit.inBlock,Exit.then])
  refine bodyPost_ret (v:=.tuple #[.slice none 0 0,.agg #[.int .i64 0,.int .i64 0],.int .i64 1]) ?_ rfl (make_said HE.out (by decide) rfl ?_)
  ·rw [results_tct rfl]
   go_simp
  ·repeat (refine Below.setCell ?_ (by simp) _)
   exact HB1.out
theorem two_set {w:World} {A B:Nat} {a b:Int} {x y:Value} (h:w.cell? ⟨A,0,none⟩ = some (.int .i64 a)/\w.cell? ⟨A,1,none⟩ = some (.int .i64 b)) (hne:A≠B) :
  ((w.setCell ⟨B,0,none⟩ x).setCell ⟨B,1,none⟩ y).cell? ⟨A,0,none⟩ = some (.int .i64 a)/\((w.setCell ⟨B,0,none⟩ x).setCell ⟨B,1,none⟩ y).cell? ⟨A,1,none⟩ = some (.int .i64 b):=by
 have hk:((w.setCell ⟨B,0,none⟩ x).setCell ⟨B,1,none⟩ y).heap[A]? = w.heap[A]?:=(Below.heap_setCell _ _ _ _ hne).trans (Below.heap_setCell _ _ _ _ hne);exact ⟨(cell_block (p:=⟨A,0,none⟩) hk).trans h.1,(cell_block (p:=⟨A,1,none⟩) hk).trans h.2⟩
theorem kept_two {w2 w3 w4:World} {R:Nat} {o:Obj} (hb3:Bw w2 w3) (hb4:Bw w3 w4) (h:w2.heap[R]? = some o):w4.heap[R]? = some o:=by
 have h1:R < w2.heap.size:=(qL h);have:=hb3.size;exact (hb4.block _ (by omega)).trans ((hb3.block _ h1).trans h)
theorem Good.setCell {S:Nat->Prop} {w:World} {x:Rw} (h:Good S w x) {p:Addr} (hp:¬ S p.block) (u:Value):Good S (w.setCell p u) x:=⟨h.1.setCell hp u,h.2.1.setCell hp u,h.2.2⟩
theorem make_ok {S:Nat->Prop} (v:Value) (L:List Rw) (kind stamp:Int) (w:World) (hv:TabAt S w v L) (hr:It.right (pl L) = true) (ha:(kind = 1∨kind = 2)/\(0<=stamp/\stamp<=1099511627776)) :
  Calls Tryz.prog 186 #[v,.int .i64 kind,.int .i64 stamp] w fun e w'=>MakeSaid w (pl L) kind stamp e w':=by
 obtain ⟨W,hW⟩:=qF (w.alloc (BH 0 0));have HB0:Hid _:=qB hW;have HA0:Hid _:=qC hW;have hws:w.heap.size < W.heap.size:=by rw [hW];simp
 have HV:Hid (TabAt S W v L):=hv.up HB0.out;have HC:Hid (It.checkErr (pl L) = 0):=by show It.checkErr (pl L) = 0;unfold It.checkErr;rw [if_pos hr]
 have hao:argOk kind stamp = true:=by unfold argOk;rw [decide_eq_true ha.1,decide_eq_true ha.2];rfl
 have HE:Hid (makeErr (pl L) kind stamp = if (next (pl L)).1 = 24 then 407 else 0):=by show makeErr (pl L) kind stamp = _;unfold makeErr;rw [if_pos hr,if_pos hao]
 have HR:Hid (It.right (pl L) = true):=hr;have HS:Hid (0<=stamp/\stamp<=1099511627776):=ha.2;obtain ⟨hb0,hb1⟩:=It.next_bd (pl L);have HLL:Hid (L.length<=24):=It.right_len hr;obtain ⟨nx,hnx⟩:=qE (next (pl L));have HNX:Hid (next (pl L) = nx):=hnx;rw [hnx] at hb0 hb1 HE;obtain ⟨na,gen⟩:=nx;obtain ⟨no,rfl⟩:=Int.eq_ofNat_of_zero_le hb0;have HNL:Hid (no<=L.length):=by
  simp only [pl,List.length_map] at hb1;show no<=L.length;omega
 obtain ⟨ao,cap,rfl,_,_⟩:=hv.open;have hcase:kind = 1∨kind = 2:=ha.1;clear hv hr ha hao hb0 hb1 hnx
 by_cases h24:no = 24
 ·have HE2:Hid (makeErr (pl L) kind stamp = 407):=by show makeErr (pl L) kind stamp = 407;rw [HE.out];simp only;rw [if_pos (by omega)]
  have h24':((no:Int) == 24) = true:=by simp [h24]
  clear h24 HE;rcases hcase with rfl | rfl
  all_goals
   go_enter Tryz.func186,Tryz.ntmps186;go_wp2_with fail;rw [← hW];refine (check_any _ L _ HV.out).mono ?_;rintro e w1 ⟨rfl,hb1⟩;rw [HC.out];have HB1:Hid (Bw w w1):=HB0.out.trans (hb1.mono HB0.out.size);have HA1:=qK hb1 HA0;have HV1:Hid (TabAt S w1 (.slice ao L.length cap) L):=HV.out.up hb1;clear hb1 hW;go_wp2_with fail;refine (within_yes _ _ _ _ HS.out).mono ?_;rintro e w' ⟨rfl,rfl⟩;go_wp2_with fail;refine (next_any _ L _ HV1.out HR.out).mono ?_;rintro e w2 ⟨rfl,hb2⟩;rw [HNX.out];have HB2:Hid (Bw w w2):=HB1.out.trans (hb2.mono HB1.out.size);have HA2:Hid (w2.heap[w.heap.size]? = some (BH 0 0)):=(hb2.block _ (qL HA1.out)).trans HA1.out;have HA3:Hid ((w2.alloc (BH no gen)).heap[w.heap.size]? = some (BH 0 0)):=(Below.heap_alloc _ _ _ (qL HA2.out)).trans HA2.out;obtain ⟨⟨e0,e1⟩,ef⟩:=two_of HA3.out;clear hb2;go_wp2
   (try simp only [Exit.inBlock,Exit.then])
   refine bodyPost_ret (v:=.tuple #[.slice none 0 0,.agg #[.int .i64 0,.int .i64 0],.int .i64 407]) ?_ rfl (make_said HE2.out (by decide) rfl ?_)
   ·rw [results_tct rfl]
    go_simp
   ·repeat (refine Below.setCell ?_ (by simp) _)
    exact HB2.out.alloc HB2.out.size _
 ·have HE2:Hid (makeErr (pl L) kind stamp = 0):=by show makeErr (pl L) kind stamp = 0;rw [HE.out];simp only;rw [if_neg (by omega)]
  have h24':((no:Int) == 24) = false:=by simp;omega
  clear h24 HE;rcases hcase with rfl | rfl
  all_goals
   go_enter Tryz.func186,Tryz.ntmps186;go_wp2_with fail;rw [← hW];refine (check_any _ L _ HV.out).mono ?_;rintro e w1 ⟨rfl,hb1⟩;rw [HC.out];have HB1:Hid (Bw w w1):=HB0.out.trans (hb1.mono HB0.out.size);have HA1:=qK hb1 HA0;have HV1:Hid (TabAt S w1 (.slice ao L.length cap) L):=HV.out.up hb1;clear hb1 hW;go_wp2_with fail;refine (within_yes _ _ _ _ HS.out).mono ?_;rintro e w' ⟨rfl,rfl⟩;go_wp2_with fail;refine (next_any _ L _ HV1.out HR.out).mono ?_;rintro e w2 ⟨rfl,hb2⟩;rw [HNX.out];have HB2:Hid (Bw w w2):=HB1.out.trans (hb2.mono HB1.out.size);have HA2:Hid (w2.heap[w.heap.size]? = some (BH 0 0)):=(hb2.block _ (qL HA1.out)).trans HA1.out;have HA3:Hid ((w2.alloc (BH no gen)).heap[w.heap.size]? = some (BH 0 0)):=(Below.heap_alloc _ _ _ (qL HA2.out)).trans HA2.out;have HV2:Hid (TabAt S (w2.alloc (BH no gen)) (.slice ao L.length cap) L):=(HV1.out.up hb2).up (qG _ _);have HH3:Hid ((w2.alloc (BH no gen)).heap[w2.heap.size]? = some (BH no gen)):=heap_alloc_new _ _;have HB3:Hid (Bw w (w2.alloc (BH no gen))):=HB2.out.alloc HB2.out.size _;have HSS:Hid ((w2.alloc (BH no gen)).cell? ⟨w2.heap.size,0,none⟩ = some (.int .i64 no)/\(w2.alloc (BH no gen)).cell? ⟨w2.heap.size,1,none⟩ = some (.int .i64 gen)):=(two_of HH3.out).1;have hne:w2.heap.size≠w.heap.size:=by
    have:=(qL HA2.out);omega
   clear hb2;go_wp2_with fail
   go_region_held3 (fun w'=>w'.cell? ⟨w2.heap.size,0,none⟩ = some (.int .i64 no)/\w'.cell? ⟨w2.heap.size,1,none⟩ = some (.int .i64 gen)) (first | exact HSS.out | exact two_next (by assumption) (by assumption) | exact two_set (by assumption) hne) (first
    | (go_at_call 91;refine (fresh_any gen _ stamp _).mono ?_;rintro e w3 ⟨rfl,hb3⟩)
    | (go_at_call 188;refine (with_any (S:=S) _ L no (It.bare (fresh gen _ stamp)) _ (HV2.out.drew.up hb3) (good_bare _ _ rfl rfl) HLL.out HNL.out).mono ?_;rintro e w4 ⟨u4,L4,rfl,ht4,hpl4,hb4⟩;obtain ⟨⟨r0,r1⟩,rf⟩:=two_of (kept_two hb3 hb4 HA3.out)))
   have HB3':Bw w w3:=HB3.out.trans ((⟨hb3.os,hb3.tape,hb3.output,hb3.size,hb3.block⟩:Below (w2.alloc (BH no gen)).heap.size (w2.alloc (BH no gen)) w3).mono HB3.out.size);have HEND:Hid (TabAt (fun b=>w3.heap.size<=b) w4 u4 L4/\pl L4 = put (pl L) no (fresh gen _ stamp)/\Bw w w4/\w.heap.size < w3.heap.size):=⟨ht4,hpl4,HB3'.trans (hb4.mono HB3'.size),by
    have h1:=(qL HA2.out);have:=hb3.size;simp at this;omega⟩
   clear ht4 hpl4 hb4 hb3 HB3';go_wp2
   (try simp only [Exit.inBlock,Exit.then])
   refine bodyPost_ret (v:=.tuple #[u4,.agg #[.int .i64 no,.int .i64 gen],.int .i64 0]) ?_ rfl ⟨u4,L4,?_,?_,?_,?_⟩
   ·rw [results_tct rfl]
    go_simp
   ·unfold makeH;rw [HE2.out,if_pos rfl,HNX.out]
   ·have hS:=HEND.out.2.2.2;refine ⟨?_,fun y hy=>?_⟩
    ·refine At.imp (S:=fun b=>w3.heap.size<=b) ?_ (fun b hb _=>by omega)
     repeat (refine At.setCell ?_ (by simp;omega) _)
     exact HEND.out.1.1
    ·refine Good.imp (S:=fun b=>w3.heap.size<=b) ?_ (fun b hb _=>by omega)
     repeat (refine Good.setCell ?_ (by simp;omega) _)
     exact HEND.out.1.2 y hy
   ·unfold makeTab;rw [HE2.out,if_pos rfl,HNX.out];exact HEND.out.2.1
   ·repeat (refine Below.setCell ?_ (by simp) _)
    exact HEND.out.2.2.1
theorem make_any {S:Nat->Prop} (v:Value) (L:List Rw) (kind stamp:Int) (w:World) (hv:TabAt S w v L) :
  Calls Tryz.prog 186 #[v,.int .i64 kind,.int .i64 stamp] w fun e w'=>MakeSaid w (pl L) kind stamp e w':=by
 by_cases hr:It.right (pl L) = true
 ·by_cases ha:(kind = 1∨kind = 2)/\(0<=stamp/\stamp<=1099511627776)
  ·exact make_ok v L kind stamp w hv hr ha
  ·exact make_arg v L kind stamp w hv hr ha
 ·exact make_form v L kind stamp w hv hr
end Go.Proofs.YtneojimodomohaaGreat
