/- BBase, BIter, BJoin, BOwn, BPlainR, BRound, as one. -/
import Derived.Laws.AppendOwn
import Derived.OrdersIn
import Derived.TacticsIn
import Derived.Test.YtneojimodomohaaGreatV26
set_option maxHeartbeats 8000000
set_option maxRecDepth 100000
namespace Go.Proofs.YtneojimodomohaaGreat.Bs
open Go.ChangeShapes Go.WideShapes Go.ChangeAt Go.RowKit Go.Deep
theorem infoRun:(Tryz.prog.info? 60).map (fun i=>(i.zero,i.size,i.bytes)) = some (some (.agg #[.int .i64 0,.string ⟨#[]⟩]),2,24):=by kernel_rfl
theorem wrap_small (n:Nat) (h:n < 9223372036854775808):IntKind.i64.wrap (n:Int) = (n:Int):=by
  have e:(n:Int) % 2 ^ 64 = n:=Int.emod_eq_of_lt (by omega) (by omega);simp only [IntKind.wrap,IntKind.bits,IntKind.signed,e];rw [if_neg];simp;omega
abbrev BR (a:Int) (s:ByteArray):Obj:=.cells #[.int .i64 a,.string s] 60
theorem end_any (a:Int) (s:ByteArray) (w:World) (h0:-9223372036854775808<=a) (h1:a + s.size<=9223372036854775807) :
    Calls Tryz.prog 151 #[.agg #[.int .i64 a,.string s]] w fun e w'=>e = .returned (.int .i64 (a + s.size))/\w' = w.alloc (BR a s):=by
  go_enter Tryz.func151,Tryz.ntmps151;go_wp2;go_ret;exact ⟨rfl,rfl⟩
theorem end_grow (a:Int) (s:ByteArray) (w:World) (h0:-9223372036854775808<=a) (h1:a + s.size<=9223372036854775807) :
    Calls Tryz.prog 151 #[.agg #[.int .i64 a,.string s]] w fun e w'=>e = .returned (.int .i64 (a + s.size))/\w.grownBy w' none :=
  (end_any a s w h0 h1).mono fun _ _ ⟨he,hw⟩=>⟨he,by rw [hw];exact World.grownBy_alloc _ _ _⟩
def Bl.err (l:List Bl.R):Int:=if Bl.right (-1) l then 0 else 80
theorem Bl.take_succ (l:List Bl.R) {k:Nat} (hk:k < l.length) {x:Bl.R} (hx:l.getD k (0,.empty) = x):l.take (k + 1) = l.take k ++ [x]:=by
  rw [List.take_succ_eq_append_getElem hk,← hx];simp [List.getD,hk]
theorem Bl.right_take_succ {l:List Bl.R} {k:Nat} (hk:k < l.length) {x:Bl.R} (hx:l.getD k (0,.empty) = x):Bl.right (-1) (l.take (k + 1)) ↔ Bl.right (-1) (l.take k)/\(x.2.size≠0/\Bl.lastEnd (-1) (l.take k) < x.1/\x.1 + x.2.size<=1048576):=by
  rw [Bl.take_succ l hk hx,Bl.right_append];exact ⟨fun ⟨a,b,_⟩=>⟨a,b⟩,fun ⟨a,b⟩=>⟨a,b,trivial⟩⟩
theorem Bl.right_take {l:List Bl.R} {a:Int} (h:Bl.right a l) (k:Nat):Bl.right a (l.take k):=by
  rw [← List.take_append_drop k l,Bl.right_append] at h;exact h.1
theorem Bl.err_bad {l:List Bl.R} {k:Nat} (hk:k < l.length) {x:Bl.R} (hx:l.getD k (0,.empty) = x) (h:¬ (x.2.size≠0/\Bl.lastEnd (-1) (l.take k) < x.1/\x.1 + x.2.size<=1048576)):Bl.err l = 80:=by
  unfold Bl.err;rw [if_neg];intro hr;exact h ((Bl.right_take_succ hk hx).1 (Bl.right_take hr (k + 1))).2
theorem Bl.lastEnd_succ {l:List Bl.R} {k:Nat} (hk:k < l.length) {x:Bl.R} (hx:l.getD k (0,.empty) = x):Bl.lastEnd (-1) (l.take (k + 1)) = x.1 + x.2.size:=by
  rw [Bl.take_succ l hk hx,Bl.lastEnd_append];rfl
theorem Bl.lastEnd_bd {l:List Bl.R} (h:Bl.right (-1) l):-1<=Bl.lastEnd (-1) l/\Bl.lastEnd (-1) l<=1048576:=by
  refine ⟨Bl.right_lastEnd h,?_⟩;rcases Bl.snoc_cases l with rfl | ⟨m,s,rfl⟩
  · decide
  · rw [Bl.lastEnd_append]
    exact (Bl.right_mem h s (by simp)).2.2
theorem check_any (v : Value) (l : List Bl.R) (w : World) (hv : FieldsAt w.heap.size w v l) (hok : okFields l) :
    Calls Tryz.prog 146 #[v] w fun e w'=>e = .returned (.int .i64 (Bl.err l))/\Bw w w':=by
  obtain ⟨ao,cap,rfl,hm,hx⟩:=hv.open;clear hv;unfold maxLen at hm;obtain ⟨n,hn⟩:=qE l.length;rw [hn] at hm hx ⊢;have HN:Hid (l.length = n):=hn;have HX:Hid (∀ j,j < n->∃ b off,ao = some ⟨b,off,none⟩/\b < w.heap.size/\w.cell? ⟨b,off + j * 2,none⟩ = some (.int .i64 (l.getD j (0,.empty)).1)/\w.cell? ⟨b,off + j * 2 + 1,none⟩ = some (.string (l.getD j (0,.empty)).2)):=hx;have HO:Hid (okFields l):=hok;clear hn hx hok;go_enter Tryz.func146,Tryz.ntmps146;go_wp2;go_loopw [3,8] (fun t i wr=>∃ k:Nat,k<=n/\i = .int .i64 k/\t = .int .i64 (Bl.lastEnd (-1) (l.take k))/\Bl.right (-1) (l.take k)/\Bw w wr) (fun _ i _=>n - (intOf i).toNat)
  case atStart=>exact ⟨0,Nat.zero_le _,rfl,rfl,trivial,Below.refl _ _⟩
  case round =>
    obtain ⟨k,hk,rfl,rfl,hr,hbl⟩:=hrel;have hsz:=hbl.size;obtain ⟨hb0,hb1⟩:=Bl.lastEnd_bd hr;obtain ⟨la,hla⟩:=qE (Bl.lastEnd (-1) (l.take k));rw [hla] at hb0 hb1 ⊢;have HLA:Hid (Bl.lastEnd (-1) (l.take k) = la):=hla;have HR:Hid (Bl.right (-1) (l.take k)):=hr;clear hla hr
    by_cases hlt:k < n
    · obtain ⟨b, off, rfl, hB, c0, c1⟩ := HX.out k hlt
      have hk':k < l.length:=by rw [HN.out];exact hlt
      have hof:=HO.out.at hk';rw [← hbl.cell (p:=⟨b,off + k * 2,none⟩) hB] at c0;rw [← hbl.cell (p:=⟨b,off + k * 2 + 1,none⟩) hB] at c1;obtain ⟨x,hxk⟩:=qE (l.getD k (0,.empty));rw [hxk] at c0 c1 hof;have HXK:Hid (l.getD k (0,.empty) = x):=hxk;clear hxk;obtain ⟨xa,xs⟩:=x;simp only at c0 c1 hof;obtain ⟨⟨ha0,ha1⟩,hs1⟩:=hof;unfold maxLen at hs1;have hlt':(k:Int) < (n:Int):=by omega
      by_cases h1:xs.size = 0
      · have H : Hid (Bl.err l = 80) := Bl.err_bad hk' HXK.out (fun h => h.1 h1)
        have h1':((xs.size:Int) == 0) = true:=by simp [h1]
        clear h1;go_wp2;go_ret;rw [H.out];exact ⟨rfl,hbl.alloc hsz _⟩
      · have h1' : ((xs.size : Int) == 0) = false := beq_eq_false_iff_ne.2 (by omega)
        by_cases h2:xa<=la
        · have H : Hid (Bl.err l = 80) := Bl.err_bad hk' HXK.out (fun h => by have := h.2.1; rw [HLA.out] at this; simp only at this; omega)
          clear h1;go_wp2;go_ret;rw [H.out];exact ⟨rfl,hbl.alloc hsz _⟩
        · by_cases h3 : (1048576 : Int) - xs.size < xa
          · have H : Hid (Bl.err l = 80) := Bl.err_bad hk' HXK.out (fun h => by have := h.2.2; simp only at this; omega)
            clear h1;go_wp2;go_ret;rw [H.out];exact ⟨rfl,hbl.alloc hsz _⟩
          · have H1 : Hid (¬ xs.size = 0) := h1
            clear h1;go_wp2_with fail;refine (end_any xa xs _ (by omega) (by omega)).mono ?_;rintro e w1 ⟨rfl,rfl⟩;go_wp2
            go_roundw
            case rel=>exact ⟨k + 1,by omega,by go_num,by rw [Bl.lastEnd_succ hk' HXK.out],(Bl.right_take_succ hk' HXK.out).2 ⟨HR.out,H1.out,by rw [HLA.out];simp only;omega,by simp only;omega⟩,(hbl.alloc hsz _).alloc (by simp;omega) _⟩
            case measure=>simp [intOf];omega
    · obtain rfl : k = n := by omega
      have H:Hid (Bl.err l = 0):=by
        have:=HR.out;rw [← HN.out,List.take_length] at this;show Bl.err l = 0;unfold Bl.err;rw [if_pos this]
      go_wp2;go_ret;rw [H.out];exact ⟨rfl,hbl⟩
end Go.Proofs.YtneojimodomohaaGreat.Bs
namespace Go.Proofs.YtneojimodomohaaGreat.Bs
open Go.RowKit Go.Shelf
attribute [local go_sem] Oper.semAt_some
structure Kept (n₀ B:Nat) (W W':World):Prop where
 size:W.heap.size<=W'.heap.size
 block:∀ k,(k < n₀∨(B<=k/\k < B + 3))->k < W.heap.size->W'.heap[k]? = W.heap[k]?
theorem Kept.refl (n₀ B:Nat) (W:World):Kept n₀ B W W:=⟨Nat.le_refl _,fun _ _ _=>rfl⟩
theorem Kept.trans {n₀ B:Nat} {X Y Z:World} (h:Kept n₀ B X Y) (k:Kept n₀ B Y Z):Kept n₀ B X Z :=
 ⟨Nat.le_trans h.size k.size,fun i hi hl=>(k.block i hi (Nat.lt_of_lt_of_le hl h.size)).trans (h.block i hi hl)⟩
theorem Kept.grown {n₀ B:Nat} {W W':World} {row:Option Nat} (hg:W.grownBy W' row) (hr:∀ k,row = some k->n₀<=k/\(k < B∨B + 3<=k)):Kept n₀ B W W' :=
 ⟨hg.size,fun k hk hl=>hg.block k hl (fun e=>by have:=hr k e.symm;omega)⟩
theorem Kept.still {n₀ B:Nat} {W W':World} (hg:W.grownBy W' none):Kept n₀ B W W':=Kept.grown hg (fun k e=>by cases e)
theorem keptK_t {n₀ B:Nat} {X Y Z:World} (h:Kept n₀ B X Y) (k:Kept n₀ B Y Z):Kept n₀ B X Z:=h.trans k
theorem keptK_b {n₀ B:Nat} {w:World} (hn:n₀<=w.heap.size) (hB:B + 3<=w.heap.size) (W:World) (l:Nat) (o o':Obj) (hl:w.heap.size<=l) (_:W.heap[l]? = some o) (_:o.isCells = false) (_:o.isWalk = false):Kept n₀ B W (W.putObj l o') :=
 Kept.grown (grownBy_putObj' W l o') (fun k e=>by cases e;omega)
theorem Kept.cell {n₀ B:Nat} {W W':World} (h:Kept n₀ B W W') {k o:Nat} (hk:k < n₀∨(B<=k/\k < B + 3)) (hl:k < W.heap.size):W'.cell? ⟨k,o,none⟩ = W.cell? ⟨k,o,none⟩ :=
 World.cell?_of_block (a:=⟨k,o,none⟩) (h.block k hk hl)
abbrev In (a b:Int):={ x:Bl.R // a<=x.1/\Bl.rend x<=b/\0 < x.2.size }
def encs {a b:Int} (x:In a b):Array Value:=#[.agg #[.int .i64 x.1.1,.string x.1.2]]
theorem within_any (v:Value) (a b:Int) (w:World) (hv:∃ ao n cap,v = .slice ao n cap) :
  Calls Tryz.prog 147 #[v,.int .i64 a,.int .i64 b] w fun e w'=>e = .returned (.func (.func 187) #[] #[.pointer (some ⟨w.heap.size,0,none⟩),.pointer (some ⟨w.heap.size + 1,0,none⟩),.pointer (some ⟨w.heap.size + 1 + 1,0,none⟩)]) /\
   w' = ((w.alloc (.cells #[v] 56)).alloc (.cells #[.int .i64 a] 3)).alloc (.cells #[.int .i64 b] 3):=by
 obtain ⟨ao,n,cap,rfl⟩:=hv;go_enter Tryz.func147,Tryz.ntmps147;go_wp2;go_ret;exact ⟨rfl,rfl⟩
theorem four_next {w' w'':World} {R C D:Nat} {x0 x1 x2 x3:Value} (h:w'.cell? ⟨R,0,none⟩ = some x0/\w'.cell? ⟨R,1,none⟩ = some x1/\w'.cell? ⟨C,0,none⟩ = some x2/\w'.cell? ⟨D,0,none⟩ = some x3) (hg:w'.grownBy w'' none) :
  w''.cell? ⟨R,0,none⟩ = some x0/\w''.cell? ⟨R,1,none⟩ = some x1/\w''.cell? ⟨C,0,none⟩ = some x2/\w''.cell? ⟨D,0,none⟩ = some x3 :=
 ⟨hg.cell h.1 (by simp),hg.cell h.2.1 (by simp),hg.cell h.2.2.1 (by simp),hg.cell h.2.2.2 (by simp)⟩
theorem iter_in (n:Nat) (hn:1<=n) (lp B n₀:Nat) (ao:Option Addr) (cap:Nat) (l:List Bl.R) (a b:Int) (hr:Bl.right (-1) l) (J Jx:List (In a b)->World->Prop)
  (W:World) (hn0:n₀<=W.heap.size) (hB:B + 3<=W.heap.size) (hm:l.length<=maxLen)
  (hx:∀ j,j < l.length->∃ b off,ao = some ⟨b,off,none⟩/\b < n₀/\W.cell? ⟨b,off + j * 2,none⟩ = some (.int .i64 (l.getD j (0,.empty)).1)/\W.cell? ⟨b,off + j * 2 + 1,none⟩ = some (.string (l.getD j (0,.empty)).2))
  (c0:W.cell? ⟨B,0,none⟩ = some (.slice ao l.length cap)) (c1:W.cell? ⟨B + 1,0,none⟩ = some (.int .i64 a)) (c2:W.cell? ⟨B + 1 + 1,0,none⟩ = some (.int .i64 b))
  (hJ:AbidesFrom W.heap.size J)
  (hY:∀ pre x W1,J pre W1->pre.length < l.length->YieldAt Fence.wide (n - 1) Tryz.prog lp (encs x) W1 fun e W' =>
   (e = .returned (.bool true)/\J (pre ++ [x]) W'/\Kept n₀ B W1 W')∨(e = .returned (.bool false)/\Jx (pre ++ [x]) W'))
  (h0:J [] W) :
  CallsIn Fence.wide n Tryz.prog 187 #[.func (.yield lp) #[] #[],.pointer (some ⟨B,0,none⟩),.pointer (some ⟨B + 1,0,none⟩),.pointer (some ⟨B + 1 + 1,0,none⟩)] W fun e W'=>(∃ v,e = .returned v) /\
   ((∃ ys,ys.map (·.1) = Bl.within a b l/\J ys W')∨(∃ pre,True/\Jx pre W')):=by
 unfold maxLen at hm;obtain ⟨m,hml⟩:=qE l.length;rw [hml] at hm hx c0 hY;refine callsIn_of_wp Tryz.func187 rfl trivial ?_ rfl;simp only [Tryz.ntmps187,List.size_toArray,List.length_cons,List.length_nil,Nat.reduceAdd,Nat.reduceSub,Array.replicate_succ,Array.replicate_zero,List.push_toArray,List.append_toArray,List.nil_append,List.cons_append]
 gi_wp2
 gi_loopw [11] (fun i wr=>∃ (k:Nat) (pre:List (In a b)),k<=m/\i = .int .i64 k/\pre.map (·.1) = Bl.within a b (l.take k)/\J pre wr/\Kept n₀ B W wr)
  (fun i _=>m - (intOf i).toNat)
 case atStart=>exact ⟨0,[],Nat.zero_le _,rfl,rfl,h0,Kept.refl _ _ _⟩
 case round =>
  obtain ⟨k,pre,hk,rfl,hpre,hJs,hkp⟩:=hrel;have hsz:=hkp.size;have e1:=(hkp.cell (k:=B + 1) (o:=0) (.inr ⟨by omega,by omega⟩) (by omega)).trans c1;have e2:=(hkp.cell (k:=B + 1 + 1) (o:=0) (.inr ⟨by omega,by omega⟩) (by omega)).trans c2
  by_cases hlt:k < m
  ·obtain ⟨bb,off,rfl,hbb,d0,d1⟩:=hx k hlt;rw [← hkp.cell (k:=bb) (.inl hbb) (by omega)] at d0 d1;have HX:Hid (l.getD k (0,.empty) = l.getD k (0,.empty)):=rfl;obtain ⟨x,hxk⟩:=qE (l.getD k (0,.empty));rw [hxk] at d0 d1;obtain ⟨xa,xs⟩:=x;simp only at d0 d1;have hmem:(xa,xs)∈l:=by rw [← hxk];simp [List.getD,hml,hlt]
   obtain ⟨q0,q1,q2⟩:=Bl.right_mem hr _ hmem;unfold Bl.rend at q2;simp only at q0 q1 q2;replace q2:xa + (xs.size:Int)<=1048576:=q2;have hlt':(k:Int) < (m:Int):=by omega
   clear hx;obtain ⟨mx,hmx⟩:=qE (if xa < a then a else xa);obtain ⟨mn,hmn⟩:=qE (if b < xa + (xs.size:Int) then b else xa + (xs.size:Int));have HS:Hid ((wr.alloc (BR xa xs)).cell? ⟨wr.heap.size,0,none⟩ = some (.int .i64 xa)/\(wr.alloc (BR xa xs)).cell? ⟨wr.heap.size,1,none⟩ = some (.string xs)/\(wr.alloc (BR xa xs)).cell? ⟨B + 1,0,none⟩ = some (.int .i64 a)/\(wr.alloc (BR xa xs)).cell? ⟨B + 1 + 1,0,none⟩ = some (.int .i64 b)):=⟨by simp,by simp,(World.grownBy_alloc wr _ none).cell e1 (by simp),(World.grownBy_alloc wr _ none).cell e2 (by simp)⟩;have HK:Hid (Kept n₀ B W wr/\J pre wr/\pre.map (·.1) = Bl.within a b (l.take k)):=⟨hkp,hJs,hpre⟩;clear e1 e2 c0 c1 c2 hkp hJs hpre
   gi_wp2
   refine wpIn_wide.2 ?_;obtain ⟨w1,hw1⟩:=qE (wr.alloc (BR xa xs));obtain ⟨R,hR⟩:=qE wr.heap.size;rw [hw1,hR] at HS ⊢
   go_region_held3 (fun w'=>w'.cell? ⟨R,0,none⟩ = some (.int .i64 xa)/\w'.cell? ⟨R,1,none⟩ = some (.string xs)/\w'.cell? ⟨B + 1,0,none⟩ = some (.int .i64 a)/\w'.cell? ⟨B + 1 + 1,0,none⟩ = some (.int .i64 b)) (first | exact HS.out | assumption | exact four_next (by assumption) (by assumption)) (first | (go_at_call 151;refine (end_grow xa xs _ (by omega) (by omega)).mono ?_;rintro e w2 ⟨rfl,hg2⟩))
   all_goals
    as_aux_lemma =>
    obtain ⟨f0,f1,f2,f3⟩:w2.cell? ⟨R,0,none⟩ = some (.int .i64 xa)/\w2.cell? ⟨R,1,none⟩ = some (.string xs)/\w2.cell? ⟨B + 1,0,none⟩ = some (.int .i64 a)/\w2.cell? ⟨B + 1 + 1,0,none⟩ = some (.int .i64 b):=by assumption
    have HG:Hid (wr.grownBy w2 none):=by
     have h1:wr.grownBy w1 none:=by rw [← hw1];exact World.grownBy_alloc _ _ _
     exact grown_trans h1 ⟨hg2.os,hg2.tape,hg2.output,hg2.size,hg2.block⟩
    have HJ2:Hid _:=hJ _ _ _ none HK.out.2.1 HG.out (fun r e=>by cases e);have HK2:Hid _:=HK.out.1.trans (Kept.still HG.out);have HPL:Hid (pre.length < m):=by
     have h1:=congrArg List.length HK.out.2.2;have h2:(Bl.within a b (l.take k)).length<=(l.take k).length:=List.length_filterMap_le _ _;simp only [List.length_map,List.length_take] at h1 h2;show pre.length < m;omega
    have HCL:Hid (Bl.within a b (l.take (k + 1)) = Bl.within a b (l.take k) ++ (Bl.clip a b (xa,xs)).toList):=by
     show Bl.within a b (l.take (k + 1)) = _;rw [Bl.take_succ l (by omega) hxk,Bl.within_snoc]
    have HMX:Hid (mx = max xa a/\mn = min (xa + xs.size) b):=by
     refine ⟨?_,?_⟩
     ·rw [← hmx];split <;> omega
     ·rw [← hmn];split <;> omega
    have HPR:Hid _:=HK.out.2.2;have HXK:=hxk;clear hg2 hw1 HS HK hmx hmn hxk HX
    by_cases hge:mn<=mx
    ·have HC0:Hid (Bl.clip a b (xa,xs) = none):=by
      show Bl.clip a b (xa,xs) = none;unfold Bl.clip Bl.rend;rw [if_neg (by have:=HMX.out;simp only;omega)]
     gi_wp2
     go_roundw
     case rel=>exact ⟨k + 1,pre,by omega,by go_num,by rw [HCL.out,HC0.out];simpa using HPR.out,HJ2.out,HK2.out⟩
     case measure=>simp [intOf];omega
    ·obtain ⟨p,hp⟩:=Int.eq_ofNat_of_zero_le (show 0<=mx - xa by have:=HMX.out;omega);obtain ⟨q,hq⟩:=Int.eq_ofNat_of_zero_le (show 0<=mn - xa by have:=HMX.out;omega);have hpq:p < q:=by omega
     have hqs:q<=xs.size:=by have:=HMX.out;omega
     have HC1:Hid (Bl.clip a b (xa,xs) = some (mx,xs.extract p q)):=by
      show Bl.clip a b (xa,xs) = some (mx,xs.extract p q);have h1:=HMX.out;unfold Bl.clip Bl.rend;simp only;rw [if_pos (by omega),← h1.1,← h1.2,hp,hq];simp
     obtain ⟨y,hy⟩:∃ y:In a b,y.1 = (mx,xs.extract p q):=by
      obtain ⟨g1,g2,g3⟩:=Bl.clip_some HC1.out;exact ⟨⟨(mx,xs.extract p q),by simp only at g1 ⊢;omega,by rw [g2];omega,g3⟩,rfl⟩
     obtain ⟨fn,tmps,assign,body,hyy,hR2⟩:=hY pre y w2 HJ2.out HPL.out;unfold encs at hyy;rw [hy] at hyy;simp only at hyy;have HYE:Hid _:=hy;clear hy;have hpq':(p:Int)<=(q:Int):=by omega
     have hqs':(q:Int)<=(xs.size:Int):=by omega
     gi_wp2
     refine hR2.mono ?_;rintro e W3 (⟨rfl,hJ3,hk3⟩ | ⟨rfl,hJx3⟩)
     ·gi_wp2
      go_roundw
      case rel=>exact ⟨k + 1,pre ++ [y],by omega,by go_num,by rw [HCL.out,HC1.out,List.map_append,HPR.out];simp [HYE.out],hJ3,HK2.out.trans hk3⟩
      case measure=>simp [intOf];omega
     ·gi_wp2
      refine bodyPost_ret (results_none rfl _ _ _) rfl ?_;exact ⟨⟨_,rfl⟩,.inr ⟨_,trivial,hJx3⟩⟩
  ·obtain rfl:k = m:=by omega
   gi_wp2
   go_end0
   exact ⟨⟨_,rfl⟩,.inl ⟨pre,by rw [hpre,← hml,List.take_length],hJs⟩⟩
end Go.Proofs.YtneojimodomohaaGreat.Bs
namespace Go.Proofs.YtneojimodomohaaGreat.Bs
open Go.ChangeShapes Go.WideShapes Go.ChangeAt Go.RowKit Go.Deep
theorem own_set {w:World} {n₀:Nat} {e:TypeId} {size g k cap:Nat} {xs:List Value} (h:w.ownsRow n₀ e size (.slice (some ⟨g,0,none⟩) k cap) k xs) (j:Nat) (u:Value) :
  (w.setCell ⟨g,j,none⟩ u).ownsRow n₀ e size (.slice (some ⟨g,0,none⟩) k cap) k (xs.set j u):=by
 refine ⟨by rw [List.length_set];exact h.1,.inr ?_⟩;rcases h.2 with ⟨h1,_⟩ | ⟨g',cap',cur,hv,hb,hg,h1,h2,h3,h4⟩
 ·cases h1
 ·simp only [Value.slice.injEq,Option.some.injEq,Addr.mk.injEq,and_true,true_and] at hv;obtain ⟨rfl,rfl⟩:=hv;obtain ⟨hlt,hk⟩:=Array.getElem?_eq_some_iff.1 hg;refine ⟨g,cap,cur.setIfInBounds j u,rfl,hb,?_,h1,h2,by simpa using h3,?_⟩
  ·show (w.heap.modify g _)[g]? = _;rw [Array.getElem?_eq_getElem (by rw [Array.size_modify];exact hlt),Array.getElem_modify_self,hk];rfl
  ·rw [Array.toList_setIfInBounds,List.take_set,h4]
theorem grown_setCell (w:World) (g j:Nat) (u:Value):w.grownBy (w.setCell ⟨g,j,none⟩ u) (some g) :=
 ⟨rfl,rfl,rfl,by simp [World.setCell],fun k _ hk=>Below.heap_setCell _ _ _ k (fun e=>hk (by rw [e]))⟩
theorem cells_set (m:List Bl.R) (s:Bl.R) (d:ByteArray):(cellsOf (m ++ [s])).set (m.length * 2 + 1) (.string d) = cellsOf (m ++ [(s.1,d)]):=by
 rw [cellsOf_append,cellsOf_append,List.set_append_right _ _ (by rw [cellsOf_length];omega),cellsOf_length,Nat.add_sub_cancel_left];rfl
theorem own_last {w:World} {n₀:Nat} {e:TypeId} {g cap:Nat} {m:List Bl.R} {s:Bl.R} (h:w.ownsRow n₀ e 2 (.slice (some ⟨g,0,none⟩) (m.length + 1) cap) (m.length + 1) (cellsOf (m ++ [s]))) :
  w.cell? ⟨g,m.length * 2,none⟩ = some (.int .i64 s.1)/\w.cell? ⟨g,m.length * 2 + 1,none⟩ = some (.string s.2)/\(∀ o,w.frozen? ⟨g,o,none⟩ = false)/\g < w.heap.size/\n₀<=g/\m.length + 1<=maxLen:=by
 have hlt:=h.lt g rfl;obtain ⟨a0,a1⟩:=cellsOf_at (m ++ [s]) m.length (by simp);have hd:(m ++ [s]).getD m.length (0,.empty) = s:=by simp
 rw [hd] at a0 a1;have c0:=h.cells (g:=g) rfl _ _ a0;have c1:=h.cells (g:=g) rfl _ _ a1;rw [WideShapes.add_plain,Nat.zero_add] at c0 c1;rcases h.2 with ⟨h1,_⟩ | ⟨g',cap',cur,hv,hb,hg,h1,h2,h3,h4⟩
 ·cases h1
 ·simp only [Value.slice.injEq,Option.some.injEq,Addr.mk.injEq,and_true,true_and] at hv;obtain ⟨rfl,rfl⟩:=hv;exact ⟨c0,c1,fun o=>by simp [World.frozen?,hg],hlt.2,hlt.1,by omega⟩
theorem own_snoc {w:World} {n₀:Nat} {e:TypeId} {v:Value} {m:List Bl.R} {s:Bl.R} (h:w.ownsRow n₀ e 2 v (m ++ [s]).length (cellsOf (m ++ [s]))):∃ g cap,v = .slice (some ⟨g,0,none⟩) (m.length + 1) cap:=by
 rcases h.2 with ⟨_,h0⟩ | ⟨g,cap,_,rfl,_⟩
 ·simp at h0
 ·exact ⟨g,cap,by simp⟩
theorem fourg_next {w' w'':World} {R g o:Nat} {x0 x1 x2 x3:Value} (h:w'.cell? ⟨R,0,none⟩ = some x0/\w'.cell? ⟨R,1,none⟩ = some x1/\w'.cell? ⟨g,o,none⟩ = some x2/\w'.cell? ⟨g,o + 1,none⟩ = some x3) (hg:w'.grownBy w'' none) :
  w''.cell? ⟨R,0,none⟩ = some x0/\w''.cell? ⟨R,1,none⟩ = some x1/\w''.cell? ⟨g,o,none⟩ = some x2/\w''.cell? ⟨g,o + 1,none⟩ = some x3 :=
 ⟨hg.cell h.1 (by simp),hg.cell h.2.1 (by simp),hg.cell h.2.2.1 (by simp),hg.cell h.2.2.2 (by simp)⟩
theorem join_nil (n₀:Nat) (v:Value) (xa:Int) (xs:ByteArray) (w:World) (hrow:w.ownsRow n₀ 60 2 v 0 []) (hbase:n₀<=w.heap.size) :
  Calls Tryz.prog 148 #[v,.agg #[.int .i64 xa,.string xs]] w fun e w'=>∃ v',e = .returned v'/\w'.ownsRow n₀ 60 2 v' 1 (cellsOf [(xa,xs)])/\w.grownBy w' v.ownBlock:=by
 obtain ⟨i0,hi,hz0,hz1,hz2⟩:=info_parts infoRun;obtain ⟨ao,cap,rfl⟩:∃ ao cap,v = .slice ao 0 cap:=by
  rcases hrow.2 with ⟨rfl,_⟩ | ⟨g,cap,_,rfl,_⟩
  ·exact ⟨_,_,rfl⟩
  ·exact ⟨_,_,rfl⟩
 go_enter Tryz.func148,Tryz.ntmps148;go_wp2
 go_quiet (fail)
 go_wp2_with (at_builtin;refine wpList_append_own _ rfl (.tmp 32) (.tmp 34) 56 rfl n₀ 60 i0 (.agg #[.int .i64 0,.string ⟨#[]⟩]) 2 24 Tryz.underlying56 hi hz0 hz1 hz2 rfl (by decide) _ _ _ rfl ((own_drewN (hrow.alloc _) _).alloc _) ⟨w.heap.size + 1,0,none⟩ 1 1 [.int .i64 xa,.string xs] rfl rfl (two_new _ _ (by simp) _ _ _) (one2 _ _) (by unfold maxLen;omega) (by omega) (by simp;omega) ?_;intro v1 w1 hown1 hgrow1 _)
 go_ret;exact ⟨v1,rfl,hown1,grown_trans (grown_trans (grown_drew (World.grownBy_alloc w _ _) _) (World.grownBy_alloc _ _ _)) hgrow1⟩
theorem join_snoc (n₀:Nat) (v:Value) (m:List Bl.R) (s:Bl.R) (xa:Int) (xs:ByteArray) (w:World) (hrow:w.ownsRow n₀ 60 2 v (m ++ [s]).length (cellsOf (m ++ [s]))) (hbase:n₀<=w.heap.size)
  (hs0:-9223372036854775808<=s.1) (hs1:s.1 + s.2.size<=1048576) (hx:xs.size<=1048576) (hz:s.2.size<=4611686018427387904) (hlen:m.length<=1073741824) :
  Calls Tryz.prog 148 #[v,.agg #[.int .i64 xa,.string xs]] w fun e w'=>∃ v',e = .returned v'/\w'.ownsRow n₀ 60 2 v' (Bl.join (m ++ [s]) (xa,xs)).length (cellsOf (Bl.join (m ++ [s]) (xa,xs)))/\w.grownBy w' v.ownBlock:=by
 obtain ⟨i0,hi,hz0,hz1,hz2⟩:=info_parts infoRun;have HJ:Hid (Bl.join (m ++ [s]) (xa,xs) = if s.1 + s.2.size = xa then m ++ [(s.1,s.2 ++ xs)] else m ++ [s] ++ [(xa,xs)]):=Bl.join_snoc m s (xa,xs);obtain ⟨g,cap,rfl⟩:=own_snoc hrow;rw [show (m ++ [s]).length = m.length + 1 by simp] at hrow;obtain ⟨c0,c1,hfr,hg,hgn,hmx⟩:=own_last hrow;unfold maxLen at hmx;obtain ⟨sa,sd⟩:=s;simp only at hs0 hs1 hz c0 c1 HJ;obtain ⟨n,hn⟩:=qE m.length;have HN:Hid (m.length = n):=hn;rw [hn] at hrow c0 c1 hmx hlen ⊢;clear hn;have HS:Hid ((w.alloc (BR xa xs)).cell? ⟨w.heap.size,0,none⟩ = some (.int .i64 xa)/\(w.alloc (BR xa xs)).cell? ⟨w.heap.size,1,none⟩ = some (.string xs)/\(w.alloc (BR xa xs)).cell? ⟨g,n * 2,none⟩ = some (.int .i64 sa)/\(w.alloc (BR xa xs)).cell? ⟨g,n * 2 + 1,none⟩ = some (.string sd)) :=
  ⟨by simp,by simp,(World.grownBy_alloc w _ none).cell c0 (by simp),(World.grownBy_alloc w _ none).cell c1 (by simp)⟩
 have HR:Hid (w.ownsRow n₀ 60 2 (.slice (some ⟨g,0,none⟩) (n + 1) cap) (n + 1) (cellsOf (m ++ [(sa,sd)]))):=hrow;have HG:Hid (w.grownBy (w.alloc (BR xa xs)) none):=World.grownBy_alloc w _ none;have HZ:Hid (w.heap.size < (w.alloc (BR xa xs)).heap.size):=by show w.heap.size < _;simp
 have hgne:¬ g = w.heap.size:=by omega
 have hq:¬ 9223372036854775807 < sd.size + xs.size:=by omega
 have hnd:decide ((0:Int)<=(n:Int)) = true:=by simp
 have hnl:(n:Int) < (n:Int) + 1:=by omega
 clear hrow c0 c1 hfr;go_enter Tryz.func148,Tryz.ntmps148;go_wp2;obtain ⟨w1,hw1⟩:=qE (w.alloc (BR xa xs));obtain ⟨R,hR⟩:=qE w.heap.size;rw [hw1,hR] at HS HZ;rw [hw1] at HG;rw [hR] at hgne;rw [hw1,hR]
 go_region_held3 (fun w'=>w'.cell? ⟨R,0,none⟩ = some (.int .i64 xa)/\w'.cell? ⟨R,1,none⟩ = some (.string xs)/\w'.cell? ⟨g,n * 2,none⟩ = some (.int .i64 sa)/\w'.cell? ⟨g,n * 2 + 1,none⟩ = some (.string sd)) (first | exact HS.out | assumption | exact fourg_next (by assumption) (by assumption)) (first | (go_at_call 151;refine (end_grow sa sd _ (by omega) (by omega)).mono ?_;rintro e w2 ⟨rfl,hg2⟩))
 obtain ⟨f0,f1,f2,f3⟩:w2.cell? ⟨R,0,none⟩ = some (.int .i64 xa)/\w2.cell? ⟨R,1,none⟩ = some (.string xs)/\w2.cell? ⟨g,n * 2,none⟩ = some (.int .i64 sa)/\w2.cell? ⟨g,n * 2 + 1,none⟩ = some (.string sd):=by assumption
 have HG2:Hid (w.grownBy w2 none):=grown_trans HG.out ⟨hg2.os,hg2.tape,hg2.output,hg2.size,hg2.block⟩;have hR2:w2.ownsRow n₀ 60 2 (.slice (some ⟨g,0,none⟩) (n + 1) cap) (n + 1) (cellsOf (m ++ [(sa,sd)])):=HR.out.kept HG2.out (.inr (by simp [Value.ownBlock]));have HR2:Hid (w2.ownsRow n₀ 60 2 (.slice (some ⟨g,0,none⟩) (n + 1) cap) (n + 1) (cellsOf (m ++ [(sa,sd)]))):=hR2;have hfr:=fun o=>(show w2.frozen? ⟨g,o,none⟩ = false from by
  have h:=HR2.out;rw [← HN.out] at h;exact (own_last h).2.2.1 o)
 have hsz2:n₀<=w2.heap.size:=Nat.le_trans hbase HG2.out.size;clear hg2 hR2
 by_cases ht:sa + (sd.size:Int) = xa
 ·have ht':(sa + (sd.size:Int) == xa) = true:=by simpa using ht
  have HO:Hid (Bl.join (m ++ [(sa,sd)]) (xa,xs) = m ++ [(sa,sd ++ xs)]):=by rw [HJ.out,if_pos ht];rfl
  clear ht;go_wp2
  go_region
  all_goals
   go_wp2;go_ret;refine ⟨_,rfl,?_,?_⟩
   ·have h:=own_set HR2.out (n * 2 + 1) (.string (sd ++ xs));have hc:=cells_set m (sa,sd) (sd ++ xs);rw [HN.out] at hc;rw [hc] at h;rw [HO.out,show (m ++ [(sa,sd ++ xs)]).length = n + 1 by simp [HN.out]];exact h
   ·have h:=grown_trans (grown_any HG2.out (some g)) (grown_setCell w2 g (n * 2 + 1) (.string (sd ++ xs)));exact ⟨h.os,h.tape,h.output,h.size,h.block⟩
 ·have ht':(sa + (sd.size:Int) == xa) = false:=by simpa using ht
  have HO:Hid (Bl.join (m ++ [(sa,sd)]) (xa,xs) = m ++ [(sa,sd)] ++ [(xa,xs)]):=by rw [HJ.out,if_neg ht];rfl
  clear ht hfr
  go_wp2_with (at_builtin;refine wpList_append_own _ rfl (.tmp 32) (.tmp 34) 56 rfl n₀ 60 i0 (.agg #[.int .i64 0,.string ⟨#[]⟩]) 2 24 Tryz.underlying56 hi hz0 hz1 hz2 rfl (by decide) _ _ _ rfl (HR2.out.alloc _) ⟨w2.heap.size,0,none⟩ 1 1 [.int .i64 xa,.string xs] rfl rfl (two_new _ _ rfl _ _ _) (one2 _ _) (by unfold maxLen;omega) (by omega) (by simp;omega) ?_;intro v1 w3 hown1 hgrow1 _)
  go_ret;refine ⟨v1,rfl,?_,?_⟩
  ·rw [HO.out,cellsOf_append,List.length_append,List.length_append,HN.out];exact hown1
  ·exact grown_trans (grown_trans (grown_any HG2.out _) (World.grownBy_alloc _ _ _)) hgrow1
structure Fit (out:List Bl.R):Prop where
 low:∀ r∈out,-9223372036854775808<=r.1/\Bl.rend r<=1048576
 size:Bl.total out<=4611686018427387904
 len:out.length<=1073741824
theorem join_any (n₀:Nat) (v:Value) (out:List Bl.R) (x:Bl.R) (w:World) (hrow:w.ownsRow n₀ 60 2 v out.length (cellsOf out)) (hbase:n₀<=w.heap.size) (hf:Fit out) (hx:x.2.size<=1048576) :
  Calls Tryz.prog 148 #[v,.agg #[.int .i64 x.1,.string x.2]] w fun e w'=>∃ v',e = .returned v'/\w'.ownsRow n₀ 60 2 v' (Bl.join out x).length (cellsOf (Bl.join out x))/\w.grownBy w' v.ownBlock:=by
 rcases Bl.snoc_cases out with rfl | ⟨m,s,rfl⟩
 ·exact join_nil n₀ v x.1 x.2 w hrow hbase
 ·have hs:=hf.low s (by simp);have ht:s.2.size<=Bl.total (m ++ [s]):=Bl.total_mem (by simp);have hz:=hf.size;have hl:=hf.len;unfold Bl.rend at hs;exact join_snoc n₀ v m s x.1 x.2 w hrow hbase hs.1 hs.2 hx (by omega) (by simp at hl;omega)
end Go.Proofs.YtneojimodomohaaGreat.Bs
namespace Go.Proofs.YtneojimodomohaaGreat.Bs
open Go.RowKit Go.Shelf
theorem joined {W w1:World} {n₀ O:Nat} {v v':Value} {k m:Nat} {xs ys:List Value} (hv:Boxed W O 56 v) (hrow:W.ownsRow n₀ 60 2 v k xs) (hn:n₀<=W.heap.size) (hO:n₀<=O)
  (hown':w1.ownsRow n₀ 60 2 v' m ys) (hgrow:W.grownBy w1 v.ownBlock) :
  Boxed w1 O 56 v/\Boxed (w1.setCell ⟨O,0,none⟩ v') O 56 v'/\(w1.setCell ⟨O,0,none⟩ v').ownsRow n₀ 60 2 v' m ys/\KeepsOthers W (w1.setCell ⟨O,0,none⟩ v')/\Below n₀ W (w1.setCell ⟨O,0,none⟩ v') /\
   (∀ B t u,t≠60->B≠O->Boxed W B t u->Boxed (w1.setCell ⟨O,0,none⟩ v') B t u):=by
 have hv1:Boxed w1 O 56 v:=hv.kept hgrow (hv.not_row (by decide) hrow);refine ⟨hv1,hv1.set v',hown'.kept (grownBy_setCell' w1 O v') (.inr (hv1.not_row (by decide) hown').symm),?_,?_,fun B t u ht hB hb=>?_⟩
 ·refine (KeepsOthers.of_grownBy hgrow fun j o ej hj=>?_).trans (KeepsOthers.setCell _ _ _);rcases hrow.2 with ⟨rfl,_⟩ | ⟨g,cap,cur,rfl,_,hgb,_⟩
  ·simp [Value.ownBlock] at ej
  ·obtain rfl:g = j:=by simpa [Value.ownBlock] using ej
   rw [hgb] at hj;cases hj;rfl
 ·refine ((Below.refl n₀ W).grown hgrow hn fun j ej=>?_).setCell (p:=⟨O,0,none⟩) hO v';rcases hrow.2 with ⟨rfl,_⟩ | ⟨g,cap,cur,rfl,hb,_,_⟩
  ·simp [Value.ownBlock] at ej
  ·obtain rfl:g = j:=by simpa [Value.ownBlock] using ej
   exact hb
 ·exact (hb.kept hgrow (hb.not_row ht hrow)).other hB v'
def Three (W:World) (B:Nat) (lv:Value) (a b:Int):Prop:=Boxed W B 56 lv/\Boxed W (B + 1) 3 (.int .i64 a)/\Boxed W (B + 1 + 1) 3 (.int .i64 b)
theorem Three.kept {n₀ B:Nat} {lv:Value} {a b:Int} {W W':World} (h:Three W B lv a b) (h':Three W' B lv a b) (hb:Below n₀ W W'):Kept n₀ B W W':=by
 refine ⟨hb.size,fun k hk hl=>?_⟩;rcases hk with hk | ⟨h1,h2⟩
 ·exact hb.block k hk
 ·have hk:k = B∨k = B + 1∨k = B + 1 + 1:=by omega
  rcases hk with rfl | rfl | rfl
  ·exact (show W'.heap[k]? = _ from h'.1).trans (show W.heap[k]? = _ from h.1).symm
  ·exact (show W'.heap[B + 1]? = _ from h'.2.1).trans (show W.heap[B + 1]? = _ from h.2.1).symm
  ·exact (show W'.heap[B + 1 + 1]? = _ from h'.2.2).trans (show W.heap[B + 1 + 1]? = _ from h.2.2).symm
theorem three_own {β:Type} (B:Nat) (lv:Value) (a b:Int):Own (fun (_:β) W=>Three W B lv a b):=fun s X Y row hs hg hr =>
 ⟨boxed_own B 56 (fun (_:β)=>lv) s X Y row hs.1 hg hr,boxed_own (B + 1) 3 (fun (_:β)=>Value.int .i64 a) s X Y row hs.2.1 hg hr,boxed_own (B + 1 + 1) 3 (fun (_:β)=>Value.int .i64 b) s X Y row hs.2.2 hg hr⟩
theorem Three.alloc {W:World} {B:Nat} {lv:Value} {a b:Int} (h:Three W B lv a b) (o:Obj):Three (W.alloc o) B lv a b:=⟨h.1.alloc o,h.2.1.alloc o,h.2.2.alloc o⟩
theorem three_new (w:World) (lv:Value) (a b:Int):Three (((w.alloc (.cells #[lv] 56)).alloc (.cells #[.int .i64 a] 3)).alloc (.cells #[.int .i64 b] 3)) w.heap.size lv a b:=by
 refine ⟨((Boxed.new w 56 lv).alloc _).alloc _,?_,?_⟩
 ·have h:=(Boxed.new (w.alloc (.cells #[lv] 56)) 3 (.int .i64 a)).alloc (.cells #[.int .i64 b] 3);rw [World.size_alloc] at h;exact h
 ·have h:=Boxed.new ((w.alloc (.cells #[lv] 56)).alloc (.cells #[.int .i64 a] 3)) 3 (.int .i64 b);rw [World.size_alloc,World.size_alloc] at h;exact h
theorem cells_own {β:Type} (B:Nat) (c:Array Value) (t:TypeId):Own (fun (_:β) W=>W.heap[B]? = some (.cells c t (0,0))):=fun s X Y row hs hg hrow =>
 (hg.block B (qL hs) (fun e'=>by obtain ⟨o,ho,hc⟩:=hrow B e'.symm;rw [hs] at ho;cases ho;cases hc)).trans hs
theorem mark_own {β:Type} {B D:Nat} (o:Obj) (hD:D < B):OwnFrom B (fun (_:β) W=>W.heap[D]? = some o):=fun s X Y row hs hg hrow =>
 (hg.block D (qL hs) (fun e'=>by have:=(hrow D e'.symm).1;omega)).trans hs
theorem own_pos {w:World} {n₀:Nat} {e:TypeId} {v:Value} {k:Nat} {xs:List Value} (h:w.ownsRow n₀ e 2 v k xs) (hk:0 < k):∃ g cap,v = .slice (some ⟨g,0,none⟩) k cap:=by
 rcases h.2 with ⟨_,h0⟩ | ⟨g,cap,_,rfl,_⟩
 ·omega
 ·exact ⟨g,cap,rfl⟩
theorem Bl.join_pos (l:List Bl.R) (r:Bl.R):0 < (Bl.join l r).length:=by
 rcases Bl.snoc_cases l with rfl | ⟨m,s,rfl⟩
 ·simp [Bl.join_nil]
 ·rw [Bl.join_snoc];split <;> simp
theorem two_of {w:World} {b:Nat} {x y:Value} {t:TypeId} {fr:Nat × Nat} (hb:w.heap[b]? = some (.cells #[x,y] t fr)):w.cell? ⟨b,0,none⟩ = some x/\w.cell? ⟨b,1,none⟩ = some y:=by
 constructor <;> simp [World.cell?,hb]
theorem iter_stops (n:Nat) (hn:1<=n) (B n₀:Nat) (lv:Value) (l:List Bl.R) (a b:Int) (hr:Bl.right (-1) l) (w:World) (hn0:n₀<=w.heap.size) (hB:B + 3<=w.heap.size) (hF:FieldsAt n₀ w lv l) (h3:Three w B lv a b) :
  SeqStopsK Fence.wide n Tryz.prog 187 #[.pointer (some ⟨B,0,none⟩),.pointer (some ⟨B + 1,0,none⟩),.pointer (some ⟨B + 1 + 1,0,none⟩)] (encs (a:=a) (b:=b)) (Kept n₀ B) (fun ys=>ys.map (·.1) = Bl.within a b l) (fun _=>True) l.length w:=fun lp J Jx W hW hJ _ hY h0=>by
 have hF':FieldsAt n₀ W lv l:=hF.below (hW.mono hn0) (Nat.le_refl _);obtain ⟨ao,cap,rfl,hm,hx⟩:=hF'.open;have hs:=hW.size;have c0:=(hW.cell (p:=⟨B,0,none⟩) (by show B < _;omega)).trans h3.1.cell;have c1:=(hW.cell (p:=⟨B + 1,0,none⟩) (by show B + 1 < _;omega)).trans h3.2.1.cell;have c2:=(hW.cell (p:=⟨B + 1 + 1,0,none⟩) (by show B + 1 + 1 < _;omega)).trans h3.2.2.cell;exact iter_in n hn lp B n₀ ao cap l a b hr J Jx W (by omega) (by omega) hm hx c0 c1 c2 hJ hY h0
def Bl.low (l:List Bl.R):Prop:=∀ r∈l,0<=r.1/\Bl.rend r<=1048576
theorem Bl.low_join {l:List Bl.R} {x:Bl.R} (h:Bl.low l) (hx:0<=x.1/\Bl.rend x<=1048576):Bl.low (Bl.join l x):=by
 rcases Bl.snoc_cases l with rfl | ⟨m,s,rfl⟩
 ·intro r hr;simp only [Bl.join_nil,List.mem_singleton] at hr;subst hr;exact hx
 ·rw [Bl.join_snoc];split
  ·rename_i he
   intro r hr;rcases List.mem_append.1 hr with hr | hr
   ·exact h r (List.mem_append_left _ hr)
   ·simp only [List.mem_singleton] at hr;subst hr;have hs:=h s (by simp);refine ⟨hs.1,?_⟩;unfold Bl.rend at *;simp only [Bl.size_append];omega
  ·intro r hr;rcases List.mem_append.1 hr with hr | hr
   ·exact h r hr
   ·simp only [List.mem_singleton] at hr;subst hr;exact hx
theorem Bl.low_joins {xs:List Bl.R}:∀ {l:List Bl.R},Bl.low l->Bl.low xs->Bl.low (Bl.joins l xs):=by
 induction xs with
 | nil=>intro l h _;exact h
 | cons x xs ih=>intro l h hx;exact ih (Bl.low_join h (hx x (by simp))) (fun r hr=>hx r (by simp [hr]))
theorem Bl.low_total {xs:List Bl.R} (h:Bl.low xs):Bl.total xs<=xs.length * 1048576:=by
 induction xs with
 | nil=>simp [Bl.total]
 | cons x xs ih =>
  have h1:=ih (fun r hr=>h r (by simp [hr]));have h2:=h x (by simp);unfold Bl.rend at h2;simp only [Bl.total,List.map_cons,List.sum_cons,List.length_cons] at h1 ⊢;omega
theorem Bl.fit {l xs:List Bl.R} (h:Bl.low l) (hl:l.length<=4194304) (hx:Bl.low xs) (hn:xs.length<=4194304):Fit (Bl.joins l xs):=by
 have h1:=Bl.low_joins h hx;have h2:=Bl.low_total h;have h3:=Bl.low_total hx;refine ⟨fun r hr=>⟨by have:=(h1 r hr).1;omega,(h1 r hr).2⟩,?_,?_⟩
 ·rw [Bl.total_joins];omega
 ·have:=Bl.length_joins xs l;omega
theorem low_in {a b:Int} (ha:0<=a) (hb:b<=1048576) (pre:List (In a b)):Bl.low (pre.map (·.1)):=by
 intro r hr;obtain ⟨y,_,rfl⟩:=List.mem_map.1 hr;have:=y.2;exact ⟨by omega,by omega⟩
theorem in_size {a b:Int} (ha:0<=a) (hb:b<=1048576) (x:In a b):x.1.2.size<=1048576:=by
 have:=x.2;unfold Bl.rend at this;omega
end Go.Proofs.YtneojimodomohaaGreat.Bs
namespace Go.Proofs.YtneojimodomohaaGreat.Bs
namespace Bl
/-- The m bytes from a place on. -/
def over (at_:Int) (m:Nat) (l:List R):List UInt8:=(List.range m).map fun (q:Nat)=>look 0 (at_ + (q:Int)) (ones l)
theorem over_length (at_:Int) (m:Nat) (l:List R):(over at_ m l).length = m:=by simp [over]
theorem over_nil (at_:Int) (m:Nat):over at_ m [] = List.replicate m 0:=by
  apply List.ext_getElem
  · simp [over]
  · intro i h1 h2
    simp [over,ones,look]
theorem over_snoc (at_ : Int) (m : Nat) (l : List R) (x : R) (o : Nat) (ho : x.1 = at_ + (o : Int)) (hm : o + x.2.size ≤ m) :
    over at_ m (l ++ [x]) = (over at_ m l).take o ++ x.2.data.toList ++ (over at_ m l).drop (o + x.2.size):=by
  have hl:=over_length at_ m l;have hb:x.2.data.toList.length = x.2.size:=by simp
  apply List.ext_getElem
  · simp only [over_length, List.length_append, List.length_take, List.length_drop, hb]
    omega
  · intro i h1 h2
    rw [over_length] at h1;have e1:(over at_ m (l ++ [x]))[i]'(by rw [over_length];exact h1) = if x.1<=at_ + (i:Int)/\at_ + (i:Int) < rend x then (bs x).getD (at_ + (i:Int) - x.1).toNat 0 else look 0 (at_ + (i:Int)) (ones l):=by
      simp only [over,List.getElem_map,List.getElem_range,ones_append,look_append];rw [show ones [x] = one x by simp [ones],look_one]
    rw [e1];have e2:∀ (j:Nat) (hj:j < (over at_ m l).length),(over at_ m l)[j] = look 0 (at_ + (j:Int)) (ones l):=fun j hj=>by simp [over]
    unfold rend
    by_cases h3:i < o
    · rw [if_neg (by omega),List.getElem_append_left (by simp only [List.length_append,List.length_take,hb];omega),List.getElem_append_left (by simp only [List.length_take];omega),List.getElem_take,e2]
    · by_cases h4 : i < o + x.2.size
      · rw [if_pos (by omega), List.getElem_append_left (by simp only [List.length_append, List.length_take, hb]; omega), List.getElem_append_right (by simp only [List.length_take]; omega)]
        have hi:(at_ + (i:Int) - x.1).toNat = i - o:=by omega
        have ht:((over at_ m l).take o).length = o:=by simp only [List.length_take];omega
        rw [hi];simp only [ht];unfold bs;rw [List.getD_eq_getElem?_getD,List.getElem?_eq_getElem (by omega)];rfl
      · rw [if_neg (by omega), List.getElem_append_right (by simp only [List.length_append, List.length_take, hb]; omega), List.getElem_drop, e2]
        congr 1
        simp only [List.length_append,List.length_take,hb];omega
theorem over_within (at_:Int) (m:Nat) (l:List R):over at_ m (within at_ (at_ + m) l) = over at_ m l:=by
  unfold over;apply List.map_congr_left
  intro q hq;have:=List.mem_range.1 hq;rw [ones_within,look_filter];intro p _ hp;unfold inn;simp;omega
/-- What Read tells. -/
def rErr (l:List R) (size at_ n:Int):Int:=if right (-1) l then if size < 0∨1048576 < size∨at_ < 0∨n < 0∨512 < n then 1 else 0 else 80
def rOut (l:List R) (size at_ n:Int):ByteArray:=if rErr l size at_ n = 0 then txt (over at_ (min n (size - at_)).toNat l) else txt []
end Bl
variable {P:Program} {ops:Array Oper} {Q:Exit->Act->World->Prop} {md:Region.Mode}
theorem oper_round {o:Oper} {a:Act} {w:World} {K:Act->World->Prop} (l n:Nat) (hd:∀ c,o.op≠.defer c)
    (h:o.wp P a w K Q):o.wpIn (Fence.wide.inRound l) n P a w K Q:=by
  refine ⟨fun _ _=>trivial,?_⟩;rw [Oper.semAt_eq _ _ _ hd];unfold Oper.wp at h;generalize (execOp a.eval o).run P w = r at *
  cases r with
  | ok x w' =>
    cases x with
    | value v=>exact h
    | skip=>exact h
    | defer d=>exact h
    | enter f args=>exact ⟨fun h0=>(by cases h0),CallsIn.inRound l (callsIn_wide.2 h)⟩
    | row r args=>exact ⟨fun h0=>(by cases h0),fun c cs _=>let ⟨v,w2,r,s⟩:=h c cs;⟨v,w2,r,stepsIn_wide.2 s⟩⟩
    | round l f tmps assign body=>exact h.elim
    | _=>exact h.elim
  | halt x w'=>cases x <;> first | exact h | exact h.elim
theorem any_round (l n : Nat) (hd : ∀ (i : Nat) (o : Oper), ops[i]? = some o → ∀ c, o.op ≠ .defer c) (hQ : ¬ LetsOut Q) :
    ∀ (fuel:Nat) (listed:Array Bool) (a:Act) (w:World),wpAny P md ops Q fuel listed a w->wpAnyIn (Fence.wide.inRound l) n P md ops Q fuel listed a w
  | 0,_,_,_,h=>h
  | fuel + 1, listed, a, w, h => by
    refine ⟨h.1,fun i hi=>?_⟩;have hw:=h.2 i hi;unfold wpOp at hw;unfold wpOpIn
    cases ho:ops[i]? with
    | none=>rw [ho] at hw;exact any_round l n hd hQ fuel _ _ _ hw
    | some o =>
      rw [ho] at hw;simp only at hw ⊢;split
      · rename_i hc
        rw [if_pos hc] at hw;rcases hw with hw | hw
        · exact Oper.wpIn_mono (fun a' w' h'=>any_round l n hd hQ fuel _ a' w' h') (oper_round l n (hd i o ho) hw)
        · exact absurd hw.2 hQ
      · rename_i hc
        rw [if_neg hc] at hw;exact ⟨fun _ _=>trivial,any_round l n hd hQ fuel _ _ _ hw⟩
def notDefer (o:Oper):Bool:=match o.op with | .defer _=>false | _=>true
theorem no_defer (h:ops.toList.all notDefer = true):∀ (i:Nat) (o:Oper),ops[i]? = some o->∀ c,o.op≠.defer c:=by
  intro i o ho c hc;have hm:o∈ops.toList:=by
    rw [← Array.getElem?_toList] at ho;exact List.mem_of_getElem? ho
  have:=List.all_eq_true.1 h o hm;unfold notDefer at this;rw [hc] at this
  cases this
end Go.Proofs.YtneojimodomohaaGreat.Bs
