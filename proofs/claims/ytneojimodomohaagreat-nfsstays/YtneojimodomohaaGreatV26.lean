/- NLk, BPlain, BFields, as one. -/
import Derived.Test.YtneojimodomohaaGreatV25
set_option maxHeartbeats 8000000
set_option maxRecDepth 100000
set_option linter.unusedSimpArgs false
namespace Go.Proofs.YtneojimodomohaaGreat
open Go.ChangeShapes Go.WideShapes Go.ChangeAt Go.RowKit Go.Deep It
namespace Nf
noncomputable def lkE (L:List Ino) (c:Cal) (dn:Int):Int:=Sp.linkE (Sp.chk Sp.isSp) L c.no c.gen c.no2 c.gen2 c.nm dn
noncomputable def lkT (L:List Ino) (c:Cal) (dn:Int):List Ino:=if lkE L c dn = 0 then Sp.linkT (Sp.chk Sp.isSp) L c.no c.gen c.no2 c.gen2 c.nm dn else L
end Nf
theorem lk_hit {L:List Ino} {c:Cal} {dn:Int} {L':List Rw} (h:Nf.lkE L c dn = 0) (hp:pl L' = Sp.linkT (Sp.chk Sp.isSp) L c.no c.gen c.no2 c.gen2 c.nm dn):∃ (k:Nat) (y:Rw),c.no = (k:Int)/\L'[k]? = some y/\Nf.atR (pl L') c.no = y.i:=by
 unfold Nf.lkE at h;have h0:Sp.linkErr (Sp.chk Sp.isSp) L c.no c.gen c.no2 c.gen2 c.nm dn = 0:=by
  by_cases hz:Sp.linkErr (Sp.chk Sp.isSp) L c.no c.gen c.no2 c.gen2 c.nm dn = 0
  ·exact hz
  ·unfold Sp.linkE at h;rw [if_neg hz] at h;exact absurd h hz
 obtain ⟨-,hf,-,-,-⟩:=Sp.linkErr_zero h0;obtain ⟨k,x,hk,hx,-,-,hfx,-⟩:=Sp.find_get hf;have hlt:=(qM hx);have h1:(pl L')[k]? = some (Sp.linked x 1 dn):=by
  rw [hp];unfold Sp.linkT;rw [if_pos h,hfx,hk,show ((k:Int)).toNat = k by omega,List.getElem?_set_self (by simpa using hlt)]
 obtain ⟨y,hy,hyi⟩:=Sp.pl_some h1;refine ⟨k,y,hk,hy,?_⟩;unfold Nf.atR;rw [hk,show ((k:Int)).toNat = k by omega,h1,hyi];rfl
theorem nlink_any {S:Nat->Prop} (vi vo vs:Value) (dn cl:Int) (c:Cal) (L:List Rw) (B:Nat) (w:World) (hB:w.heap[B]? = some (BTk vi vo vs dn cl c)) (hv:TabAt S w vi L) (hok:Sp.okN L) (hs:c.nm.size<=maxLen) :
  Calls Tryz.prog 54 #[.pointer (some ⟨B,0,none⟩)] w fun e w'=>∃ u k l s t,e = .returned (VRp (Nf.lkE (pl L) c dn) 0 0 k l s t ⟨#[]⟩ (.slice none 0 0) 0)/\w'.heap[B]? = some (BTk u vo vs dn cl c)/\Nf.Now (w.heap.size + 1) w' vi u (pl L) (Nf.lkT (pl L) c dn)/\Nf.att (Nf.lkE (pl L) c dn) (Nf.lkT (pl L) c dn) c.no (k,l,s,t)/\w.grownBy w' (some B):=by
 have hBl:=(qL hB);obtain ⟨W,hW⟩:=qF (w.alloc BR0);have HB0:Hid _:=qB hW;have HA0:Hid _:=qC hW;have HT0:Hid (W.heap[B]? = some (BTk vi vo vs dn cl c)):=(HB0.out.block _ hBl).trans hB;have HV:Hid (TabAt S W vi L):=hv.up HB0.out;have hwW:w.heap.size < W.heap.size:=(qL HA0.out);have hBW:B < W.heap.size:=(qL HT0.out);have hBne:B≠w.heap.size:=by omega
 obtain ⟨ao,cap,hsi,-,-⟩:=hv.open;obtain ⟨n,hn'⟩:=qE L.length;rw [hn'] at hsi;subst hsi;have HSG:Hid (∀ V:World,Bw W V->V.cell? ⟨B,0,none⟩ = some (.slice ao n cap)/\V.cell? ⟨B,6,none⟩ = some (.int .i64 c.no)/\V.cell? ⟨B,7,none⟩ = some (.int .i64 c.gen)/\V.cell? ⟨B,8,none⟩ = some (.int .i64 c.no2)/\V.cell? ⟨B,9,none⟩ = some (.int .i64 c.gen2)/\V.cell? ⟨B,10,none⟩ = some (.string c.nm)/\V.cell? ⟨B,3,none⟩ = some (.int .i64 dn)):=fun V h=>by
  obtain ⟨t0,-,-,t3,-,-,t6,t7,t8,t9,t10,-,-,-,-⟩:=tk_of HT0.out;exact ⟨cell_step t0 h,cell_step t6 h,cell_step t7 h,cell_step t8 h,cell_step t9 h,cell_step t10 h,cell_step t3 h⟩
 have HIT:Hid (Nf.lkE (pl L) c dn = 0->∀ L':List Rw,pl L' = Sp.linkT (Sp.chk Sp.isSp) (pl L) c.no c.gen c.no2 c.gen2 c.nm dn->∃ (k:Nat) (y:Rw),c.no = (k:Int)/\L'[k]? = some y/\Nf.atR (pl L') c.no = y.i):=fun h L' hp=>lk_hit h hp
 clear hv hB hn';obtain ⟨E,hE⟩:=qE (Nf.lkE (pl L) c dn);obtain ⟨T,hT⟩:=qE (Sp.linkT (Sp.chk Sp.isSp) (pl L) c.no c.gen c.no2 c.gen2 c.nm dn);obtain ⟨T2,hT2⟩:=qE (Nf.lkT (pl L) c dn);rw [hE,hT] at HIT;rw [hE,hT2];unfold Nf.lkT at hT2;rw [hE,hT] at hT2;have HC:Hid (∀ V,Bw W V->Calls Tryz.prog 104 #[.slice ao n cap,.agg #[.int .i64 c.no,.int .i64 c.gen],.agg #[.int .i64 c.no2,.int .i64 c.gen2],.string c.nm,.int .i64 dn] V fun e w'=>∃ p m q L',e = .returned (.tuple #[.slice p m q,.int .i64 E])/\(TabAt (fun b=>V.heap.size<=b) w' (.slice p m q) L'/\pl L' = T)/\Bw V w'):=fun V h=>by
  refine (slink_any scheck_any isSp_means _ L c.no c.gen c.no2 c.gen2 c.nm dn V (HV.out.up h) hok hs).mono ?_;rintro e w' ⟨u,L',h1,h2,h3,h4⟩;unfold Nf.lkE at hE;rw [hE] at h1;rw [hT] at h3;obtain ⟨p4,z4,hu,-,-⟩:=h2.open;subst hu;exact ⟨p4,L'.length,z4,L',h1,⟨h2,h3⟩,h4⟩
 obtain ⟨T0,hT0⟩:=qE (pl L);rw [hT0] at hT2 ⊢;have HT2:Hid _:=hT2;clear hE hT hT2 hT0 hok hs;go_enter Tryz.func54,Tryz.ntmps54;go_wp2_with fail;rw [← hW];clear hW;apply cut_in
 ·intro hK0;refine wp_region_any (by kernel_rfl) ?_;change wpAny _ _ _ _ _ _ _ (World.drew _);refine qV (i:=0) rfl ?_
  try simp only [qS]
  refine qV (i:=1) rfl ?_
  try simp only [qS]
  refine qV (i:=2) rfl ?_
  try simp only [qS]
  refine qV (i:=3) rfl ?_
  try simp only [qS]
  refine qV (i:=4) rfl ?_
  try simp only [qS]
  refine qV (i:=6) rfl ?_
  try simp only [qS]
  refine qV (i:=7) rfl ?_
  try simp only [qS]
  refine qV (i:=8) rfl ?_
  try simp only [qS]
  refine qV (i:=9) rfl ?_
  try simp only [qS]
  refine qV (i:=11) rfl ?_
  try simp only [qS]
  refine qV (i:=12) rfl ?_
  try simp only [qS]
  refine qV (i:=13) rfl ?_
  try simp only [qS]
  refine qV (i:=14) rfl ?_
  try simp only [qS]
  refine qV (i:=16) rfl ?_
  try simp only [qS]
  refine qV (i:=17) rfl ?_
  try simp only [qS]
  refine qV (i:=18) rfl ?_
  try simp only [qS]
  refine qV (i:=19) rfl ?_
  try simp only [qS]
  refine qV (i:=21) rfl ?_
  try simp only [qS]
  refine qV (i:=22) rfl ?_
  try simp only [qS]
  refine qV (i:=23) rfl ?_
  try simp only [qS]
  refine qV (i:=24) rfl ?_
  try simp only [qS]
  have HS:(fun V:World=>V.cell? ⟨B,0,none⟩ = some (.slice ao n cap)/\V.cell? ⟨B,6,none⟩ = some (.int .i64 c.no)/\V.cell? ⟨B,7,none⟩ = some (.int .i64 c.gen)/\V.cell? ⟨B,8,none⟩ = some (.int .i64 c.no2)/\V.cell? ⟨B,9,none⟩ = some (.int .i64 c.gen2)/\V.cell? ⟨B,10,none⟩ = some (.string c.nm)/\V.cell? ⟨B,3,none⟩ = some (.int .i64 dn)) W.drew:=HSG.out _ (bel_drew (Below.refl _ _));refine Fst.any_of (late:=fun k=>[26,27,28,29,31].contains k) (S:=fun V:World=>V.cell? ⟨B,0,none⟩ = some (.slice ao n cap)/\V.cell? ⟨B,6,none⟩ = some (.int .i64 c.no)/\V.cell? ⟨B,7,none⟩ = some (.int .i64 c.gen)/\V.cell? ⟨B,8,none⟩ = some (.int .i64 c.no2)/\V.cell? ⟨B,9,none⟩ = some (.int .i64 c.gen2)/\V.cell? ⟨B,10,none⟩ = some (.string c.nm)/\V.cell? ⟨B,3,none⟩ = some (.int .i64 dn)) _ _ _ _ ?_;refine Fst.tk (ls:=[26,27,28,29,31]) (i:=5) (v:=?v22) rfl (Or.inl ⟨by rfl,?h22⟩) HS ?r22
  case h22=>(rintro V ⟨s0,s6,s7,s8,s9,s10,s3⟩;go_simp;try with_reducible rfl)
  try simp only [qS]
  refine Fst.tk (ls:=[26,27,28,29,31]) (i:=10) (v:=?v23) rfl (Or.inl ⟨by rfl,?h23⟩) HS ?r23
  case h23=>(rintro V ⟨s0,s6,s7,s8,s9,s10,s3⟩;go_simp;try with_reducible rfl)
  try simp only [qS]
  refine Fst.tk (ls:=[26,27,28,29,31]) (i:=15) (v:=?v24) rfl (Or.inl ⟨by rfl,?h24⟩) HS ?r24
  case h24=>(rintro V ⟨s0,s6,s7,s8,s9,s10,s3⟩;go_simp;try with_reducible rfl)
  try simp only [qS]
  refine Fst.tk (ls:=[26,27,28,29,31]) (i:=20) (v:=?v25) rfl (Or.inl ⟨by rfl,?h25⟩) HS ?r25
  case h25=>(rintro V ⟨s0,s6,s7,s8,s9,s10,s3⟩;go_simp;try with_reducible rfl)
  try simp only [qS]
  refine Fst.tk (ls:=[26,27,28,29,31]) (i:=25) (v:=?v26) rfl (Or.inl ⟨by rfl,?h26⟩) HS ?r26
  case h26=>(rintro V ⟨s0,s6,s7,s8,s9,s10,s3⟩;go_simp;try with_reducible rfl)
  try simp only [qS]
  refine Fst.two (ls:=[26,27,28,29,31]) (i:=26) (j:=30) (by kernel_rfl) rfl rfl (by kernel_rfl) (fun K hK=>?_) (fun K hK=>?_)
  ·go_simp
   refine (HC.out _ (bel_drew (Below.refl _ _))).mono ?_;rintro e w5 ⟨p,m,q,L',rfl,ht5,hb5⟩;have hb55:Bw W w5:=undrew hb5;have HT5:Hid _:=(hb55.block _ hBW).trans HT0.out;have HP5:Hid _:=ht5.2;have HB5:=qJ HB0 hb55;have HR5:=qK hb55 HA0;have HU5:Hid (TabAt (fun b=>W.heap.size<=b) w5 (.slice p m q) L'):=ht5.1.imp (fun b hb _=>hb);have h5s:W.heap.size<=w5.heap.size:=hb55.size;clear hb5 ht5 hb55 HS
   (try go_wp2_with fail)
   first | (refine hK _ _ ?_;clear hK K) | skip
   try simp only [qS]
   refine qV (i:=27) rfl ?_
   try simp only [qS]
   refine qV (i:=28) rfl ?_
   try simp only [qS]
   refine wpAny_ready (rs:=[29,30]) (by kernel_rfl) (by simp) ?_;refine AllReady.cons rfl (fun K hK=>?_) (AllReady.cons rfl (fun K hK=>?_) AllReady.nil)
   ·go_simp
    refine (change_any (.slice ao n cap) vo vs dn cl c B p m q E _ HT5.out).mono ?_;rintro e w7 ⟨rfl,hB7,hg7⟩;have HB7:Hid (w7.heap[B]? = some (BTk (if E = 0 then .slice p m q else .slice ao n cap) vo vs dn cl c)):=hB7;have HR7:Hid (w7.heap[w.heap.size]? = some BR0):=(hg7.block _ (by omega) (by simp;omega)).trans HR5.out;have HU7:Hid (TabAt (fun b=>W.heap.size<=b) w7 (.slice p m q) L'):=tab_grown HU5.out hg7 (by show ¬ W.heap.size<=B;omega);have HG7:Hid (w.grownBy w7 (some B)):=grown_trans (grown_of_below HB5.out _) hg7;have h7s:w5.heap.size<=w7.heap.size:=hg7.size;clear hB7 hg7
    (try go_wp2_with fail)
    first | (refine hK _ _ ?_;clear hK K) | skip
    try simp only [qS]
    refine wpAny_ready (rs:=[30]) (by kernel_rfl) (by simp) ?_;refine AllReady.cons rfl (fun K hK=>?_) AllReady.nil
    go_simp
    (try go_wp2_with fail)
    first | (refine hK _ _ ?_;clear hK K) | skip
    try simp only [qS]
    refine wpAny_ready (rs:=[31]) (by kernel_rfl) (by simp) ?_;refine AllReady.cons rfl (fun K hK=>?_) AllReady.nil
    go_simp
    (try go_wp2_with fail)
    first | (refine hK _ _ ?_;clear hK K) | skip
    try simp only [qS]
    refine wpAny_done (by kernel_rfl) ?_ _;obtain ⟨Y,hY⟩:=qF (w7.alloc (BRp E 0 0 0 0 0 0 ⟨#[]⟩ (.slice none 0 0) 0));rw [← hY];obtain ⟨A,hA⟩:=qF w7.heap.size;have hbY:Bw w7 Y:=by rw [hY];exact qG _ _
    have HR:Hid (Y.heap[A]? = some (BRp E 0 0 0 0 0 0 ⟨#[]⟩ (.slice none 0 0) 0)/\Y.heap[w.heap.size]? = some BR0/\W.heap.size<=A/\Y.heap[B]? = some (BTk (if E = 0 then .slice p m q else .slice ao n cap) vo vs dn cl c)/\(TabAt (fun b=>W.heap.size<=b/\b≠A) Y (.slice p m q) L'/\pl L' = T)/\w.grownBy Y (some B)):=⟨by rw [hY,hA];exact heap_alloc_new _ _,(hbY.block _ (by omega)).trans HR7.out,by omega,(hbY.block _ (by omega)).trans HB7.out,⟨(HU7.out.imp (fun b hb hl=>⟨hb,by omega⟩)).up hbY,HP5.out⟩,gr_up HG7.out hbY⟩;rw [← hA];clear hA hY hbY HB7 HR7 HU7 HG7 HT5 HP5 HB5 HR5 HU5 h5s h7s;revert HR;revert A Y L' q m p;exact hK0.out
   ·go_simp
    (try go_wp2_with fail)
    first | (refine hK _ _ ?_;clear hK K) | skip
    try simp only [qS]
    refine wpAny_ready (rs:=[29]) (by kernel_rfl) (by simp) ?_;refine AllReady.cons rfl (fun K hK=>?_) AllReady.nil
    go_simp
    have hbV:Bw w5 (w5.alloc BR0):=qG _ _;refine (change_any (.slice ao n cap) vo vs dn cl c B p m q E _ ((hbV.block _ (by omega)).trans HT5.out)).mono ?_;rintro e w7 ⟨rfl,hB7,hg7⟩;have hs5:(w5.alloc BR0).heap.size = w5.heap.size + 1:=by simp
    have HB7:Hid _:=hB7;have HR7:Hid _:=(hg7.block _ (by omega) (by simp;omega)).trans ((hbV.block _ (by omega)).trans HR5.out);have HZ7:Hid _:=(hg7.block _ (by omega) (by simp;omega)).trans (heap_alloc_new _ _);have HU7:Hid (TabAt (fun b=>W.heap.size<=b/\b≠w5.heap.size) w7 (.slice p m q) L'):=tab_grown ((HU5.out.imp (fun b hb hl=>⟨hb,by omega⟩)).up hbV) hg7 (by show ¬ (W.heap.size<=B/\B≠w5.heap.size);omega);obtain ⟨g0,g1,g2,g3,g4,g5,g6,g7,g8,g9⟩:=rp_of HZ7.out;have gg:=fr_at HZ7.out;have HG7:Hid _:=grown_trans (gr_up (grown_of_below HB5.out _) hbV) hg7;clear hB7 hg7 hbV hs5
    (try go_wp2_with fail)
    first | (refine hK _ _ ?_;clear hK K) | skip
    try simp only [qS]
    refine wpAny_ready (rs:=[31]) (by kernel_rfl) (by simp) ?_;refine AllReady.cons rfl (fun K hK=>?_) AllReady.nil
    go_simp
    (try go_wp2_with fail)
    first | (refine hK _ _ ?_;clear hK K) | skip
    try simp only [qS]
    refine wpAny_done (by kernel_rfl) ?_ _;obtain ⟨Y,hY⟩:=qF ((((((((((w7.setCell ⟨w5.heap.size,0,none⟩ (.int .i64 E)).setCell ⟨w5.heap.size,1,none⟩ (.int .i64 0)).setCell ⟨w5.heap.size,2,none⟩ (.int .i64 0)).setCell ⟨w5.heap.size,3,none⟩ (.int .i64 0)).setCell ⟨w5.heap.size,4,none⟩ (.int .i64 0)).setCell ⟨w5.heap.size,5,none⟩ (.int .i64 0)).setCell ⟨w5.heap.size,6,none⟩ (.int .i64 0)).setCell ⟨w5.heap.size,7,none⟩ (.string ⟨#[]⟩)).setCell ⟨w5.heap.size,8,none⟩ (.slice none 0 0)).setCell ⟨w5.heap.size,9,none⟩ (.int .i64 0));rw [← hY];obtain ⟨A,hA⟩:=qF w5.heap.size;have hYe:Y = w7.setCells A 0 (cV E 0 0 0 0 0 0):=by rw [hA];exact hY
    have HU8:Hid (TabAt (fun b=>W.heap.size<=b/\b≠A) w7 (.slice p m q) L'):=by show TabAt _ _ _ _;rw [hA];exact HU7.out
    rw [← hA] at HZ7 ⊢;have hAl:W.heap.size<=A:=by omega
    have HR:Hid (Y.heap[A]? = some (BRp E 0 0 0 0 0 0 ⟨#[]⟩ (.slice none 0 0) 0)/\Y.heap[w.heap.size]? = some BR0/\W.heap.size<=A/\Y.heap[B]? = some (BTk (if E = 0 then .slice p m q else .slice ao n cap) vo vs dn cl c)/\(TabAt (fun b=>W.heap.size<=b/\b≠A) Y (.slice p m q) L'/\pl L' = T)/\w.grownBy Y (some B)):=⟨by rw [hYe];exact setCells_at (cV E 0 0 0 0 0 0) HZ7.out rfl,by rw [hYe];exact (setCells_off _ _ _ (by omega)).trans HR7.out,hAl,by rw [hYe];exact (setCells_off _ _ _ (by omega)).trans HB7.out,⟨by rw [hYe];exact setCells_tab (fun h=>h.2 rfl) _ _ _ HU8.out,HP5.out⟩,by rw [hYe];exact setCells_gr (.inl (by omega)) _ _ _ HG7.out⟩;clear hA hY hYe hAl HU8 HB7 HR7 HU7 HG7 HT5 HP5 HB5 HR5 HZ7 gg g0 g1 g2 g3 g4 g5 g6 g7 g8 g9 HU5 h5s;revert HR;revert A Y L' q m p;exact hK0.out
  ·go_simp
   have hbV:Bw W (W.drew.alloc BR0):=(bel_drew (Below.refl _ _)).alloc (Nat.le_refl _) _;refine hK _ _ (HSG.out _ hbV) ?_;clear hK K
   try simp only [qS]
   refine Fst.rest (by kernel_rfl) ?_;refine wpAny_ready (rs:=[26]) (by kernel_rfl) (by simp) ?_;refine AllReady.cons rfl (fun K hK=>?_) AllReady.nil
   go_simp
   refine (HC.out _ (hbV)).mono ?_;rintro e w5 ⟨p,m,q,L',rfl,ht5,hb5⟩;have hb55:Bw W w5:=hbV.trans (hb5.mono hbV.size);have HT5:Hid _:=(hb55.block _ hBW).trans HT0.out;have HP5:Hid _:=ht5.2;have HB5:=qJ HB0 hb55;have HR5:Hid _:=(hb55.block _ hwW).trans HA0.out;have hs0:(W.drew.alloc BR0).heap.size = W.heap.size + 1:=by simp
   have hU5:TabAt (fun b=>W.heap.size + 1<=b) w5 (.slice p m q) L':=ht5.1.imp (fun b hb _=>by rw [hs0] at hb;exact hb);have hZ5:w5.heap[W.heap.size]? = some BR0:=(hb5.block _ (by rw [hs0];omega)).trans (heap_alloc_new W.drew _);have h5s:W.heap.size < w5.heap.size:=(qL hZ5);have HU5:Hid _:=hU5;have HZ5:Hid _:=hZ5;clear hb5 ht5 hb55 HS hbV hs0 hU5 hZ5
   (try go_wp2_with fail)
   first | (refine hK _ _ ?_;clear hK K) | skip
   try simp only [qS]
   refine qV (i:=27) rfl ?_
   try simp only [qS]
   refine qV (i:=28) rfl ?_
   try simp only [qS]
   refine wpAny_ready (rs:=[29]) (by kernel_rfl) (by simp) ?_;refine AllReady.cons rfl (fun K hK=>?_) AllReady.nil
   go_simp
   refine (change_any (.slice ao n cap) vo vs dn cl c B p m q E _ HT5.out).mono ?_;rintro e w7 ⟨rfl,hB7,hg7⟩;have HB7:Hid _:=hB7;have HR7:Hid _:=(hg7.block _ (by omega) (by simp;omega)).trans (HR5.out);have HZ7:Hid _:=(hg7.block _ (by omega) (by simp;omega)).trans HZ5.out;have HU7:Hid (TabAt (fun b=>W.heap.size<=b/\b≠W.heap.size) w7 (.slice p m q) L'):=(tab_grown HU5.out hg7 (by show ¬ W.heap.size + 1<=B;omega)).imp (fun b hb _=>⟨by omega,by omega⟩);obtain ⟨g0,g1,g2,g3,g4,g5,g6,g7,g8,g9⟩:=rp_of HZ7.out;have gg:=fr_at HZ7.out;have HG7:Hid _:=grown_trans (grown_of_below HB5.out _) hg7;clear hB7 hg7
   (try go_wp2_with fail)
   first | (refine hK _ _ ?_;clear hK K) | skip
   try simp only [qS]
   refine wpAny_ready (rs:=[31]) (by kernel_rfl) (by simp) ?_;refine AllReady.cons rfl (fun K hK=>?_) AllReady.nil
   go_simp
   (try go_wp2_with fail)
   first | (refine hK _ _ ?_;clear hK K) | skip
   try simp only [qS]
   refine wpAny_done (by kernel_rfl) ?_ _;obtain ⟨Y,hY⟩:=qF ((((((((((w7.setCell ⟨W.heap.size,0,none⟩ (.int .i64 E)).setCell ⟨W.heap.size,1,none⟩ (.int .i64 0)).setCell ⟨W.heap.size,2,none⟩ (.int .i64 0)).setCell ⟨W.heap.size,3,none⟩ (.int .i64 0)).setCell ⟨W.heap.size,4,none⟩ (.int .i64 0)).setCell ⟨W.heap.size,5,none⟩ (.int .i64 0)).setCell ⟨W.heap.size,6,none⟩ (.int .i64 0)).setCell ⟨W.heap.size,7,none⟩ (.string ⟨#[]⟩)).setCell ⟨W.heap.size,8,none⟩ (.slice none 0 0)).setCell ⟨W.heap.size,9,none⟩ (.int .i64 0));rw [← hY];obtain ⟨A,hA⟩:=qF W.heap.size;have hYe:Y = w7.setCells A 0 (cV E 0 0 0 0 0 0):=by rw [hA];exact hY
   have HU8:Hid (TabAt (fun b=>W.heap.size<=b/\b≠A) w7 (.slice p m q) L'):=by show TabAt _ _ _ _;rw [hA];exact HU7.out
   rw [← hA] at HZ7 ⊢;have hAl:W.heap.size<=A:=by omega
   have HR:Hid (Y.heap[A]? = some (BRp E 0 0 0 0 0 0 ⟨#[]⟩ (.slice none 0 0) 0)/\Y.heap[w.heap.size]? = some BR0/\W.heap.size<=A/\Y.heap[B]? = some (BTk (if E = 0 then .slice p m q else .slice ao n cap) vo vs dn cl c)/\(TabAt (fun b=>W.heap.size<=b/\b≠A) Y (.slice p m q) L'/\pl L' = T)/\w.grownBy Y (some B)):=⟨by rw [hYe];exact setCells_at (cV E 0 0 0 0 0 0) HZ7.out rfl,by rw [hYe];exact (setCells_off _ _ _ (by omega)).trans HR7.out,hAl,by rw [hYe];exact (setCells_off _ _ _ (by omega)).trans HB7.out,⟨by rw [hYe];exact setCells_tab (fun h=>h.2 rfl) _ _ _ HU8.out,HP5.out⟩,by rw [hYe];exact setCells_gr (.inl (by omega)) _ _ _ HG7.out⟩;clear hA hY hYe hAl HU8 HB7 HR7 HU7 HG7 HT5 HP5 HB5 HR5 HZ7 gg g0 g1 g2 g3 g4 g5 g6 g7 g8 g9 HU5 HZ5 h5s;revert HR;revert A Y L' q m p;exact hK0.out
 intro p m q L' Y A HR;obtain ⟨rA,rR,hAW,rB,rT,rG⟩:=HR.out;have HTY:Hid _:=rT;have HGY:Hid _:=rG;clear HSG HC HV HT0 HA0 HR rT rG HB0;have hA1:A≠w.heap.size:=by omega
 have hA2:w.heap.size≠A:=by omega
 have hB1:B≠A:=by omega
 have hlA:=(qL rA);have hlR:=(qL rR)
 by_cases hz:E = 0
 ·subst hz;rw [if_pos rfl] at rB;have HBY:Hid _:=rB;have hT:=HT2.out;rw [if_pos rfl] at hT;have HTT:Hid _:=hT;obtain ⟨k,y,hk1,hk2,hk3⟩:=HIT.out rfl L' HTY.out.2;have HK2:Hid _:=hk2;have HK1:Hid _:=hk1;have HK3:Hid _:=hk3;obtain ⟨-,-,-,-,-,-,t6,t7,-,-,-,-,-,-,-⟩:=tk_of rB;obtain ⟨f0,f1,f2,f3,f4,f5,f6,f7,f8,f9⟩:=rp_of rA;have HRA:Hid _:=rA;have HRR:Hid _:=rR;clear rA rR rB hT hk1 hk2 hk3 HIT HT2;go_wp2_with fail;refine (attrOf_any (.slice p m q) vo vs dn cl c L' B c.no c.gen Y HBY.out HTY.out.1 HK2.out HK1.out).mono ?_;rintro e w8 ⟨rfl,hb8⟩;have HA8:Hid _:=(hb8.block _ hlA).trans HRA.out;have HR8:Hid _:=(hb8.block _ hlR).trans HRR.out;have HB8:=qK hb8 HBY;have HT8:Hid _:=HTY.out.1.up hb8;have HP8:Hid _:=HTY.out.2.trans HTT.out;have HG8:Hid _:=gr_up HGY.out hb8;have HAT:Hid (Nf.att 0 T2 c.no (y.i.kind,y.i.links,y.i.size,y.i.stamp)):=by
   show Nf.att _ _ _ _;refine ⟨fun _=>?_,fun h=>absurd rfl h⟩;rw [← HP8.out,HK3.out]
  clear hb8 HTY HTT HBY HRA HRR HGY HK1 HK2 HK3 f0 f1 f2 f3 f4 f5 f6 f7 f8 f9 t6 t7;obtain ⟨f0,f1,f2,f3,f4,f5,f6,f7,f8,f9⟩:=rp_of HA8.out;have ff:=fr_at HA8.out;obtain ⟨g0,g1,g2,g3,g4,g5,g6,g7,g8,g9⟩:=rp_of HR8.out;have gg:=fr_at HR8.out;go_wp2
  (try simp only [Exit.inBlock,Exit.then])
  refine bodyPost_ret (v:=VRp 0 0 0 y.i.kind y.i.links y.i.size y.i.stamp ⟨#[]⟩ (.slice none 0 0) 0) ?_ rfl ⟨.slice p m q,y.i.kind,y.i.links,y.i.size,y.i.stamp,rfl,?_,.inr ⟨L',?_,HP8.out⟩,HAT.out,?_⟩
  ·rw [results_cell1 rfl]
   go_simp
  ·repeat (with_reducible refine (Below.heap_setCell _ _ _ _ (show B≠w.heap.size from hBne)).trans ?_)
   repeat (with_reducible refine (Below.heap_setCell _ _ _ _ (show B≠A from hB1)).trans ?_)
   exact HB8.out
  ·refine TabAt.imp ?_ (S:=fun b=>W.heap.size<=b/\b≠A) (fun b hb _=>by omega);refine setCells_tab (A:=w.heap.size) (S:=fun b=>W.heap.size<=b/\b≠A) (by show ¬ (W.heap.size<=w.heap.size/\_);omega) (cV 0 0 0 y.i.kind y.i.links y.i.size y.i.stamp) 0 _ ?_;exact setCells_tab (A:=A) (S:=fun b=>W.heap.size<=b/\b≠A) (fun h=>h.2 rfl) [.int .i64 y.i.kind,.int .i64 y.i.links,.int .i64 y.i.size,.int .i64 y.i.stamp] 3 _ HT8.out
  ·repeat (with_reducible refine gr_set ?_ (.inl (Nat.le_refl w.heap.size)) _)
   repeat (with_reducible refine gr_set ?_ (.inl (show w.heap.size<=A by omega)) _)
   exact HG8.out
 ·rw [if_neg hz] at rB;have HBY:Hid _:=rB;have hT:=HT2.out;rw [if_neg hz] at hT;have HTT:Hid _:=hT;have hzb:(E == 0) = false:=by simpa using hz
  have HAT:Hid (Nf.att E T2 c.no (0,0,0,0)):=⟨fun h=>absurd h hz,fun _=>rfl⟩;obtain ⟨f0,f1,f2,f3,f4,f5,f6,f7,f8,f9⟩:=rp_of rA;have ff:=fr_at rA;obtain ⟨g0,g1,g2,g3,g4,g5,g6,g7,g8,g9⟩:=rp_of rR;have gg:=fr_at rR;clear rA rR rB hT HIT HT2 HTY;go_wp2
  (try simp only [Exit.inBlock,Exit.then])
  refine bodyPost_ret (v:=VRp E 0 0 0 0 0 0 ⟨#[]⟩ (.slice none 0 0) 0) ?_ rfl ⟨.slice ao n cap,0,0,0,0,rfl,?_,.inl ⟨rfl,HTT.out.symm⟩,HAT.out,?_⟩
  ·rw [results_cell1 rfl]
   go_simp
  ·repeat (with_reducible refine (Below.heap_setCell _ _ _ _ (show B≠w.heap.size from hBne)).trans ?_)
   exact HBY.out
  ·repeat (with_reducible refine gr_set ?_ (.inl (Nat.le_refl w.heap.size)) _)
   exact HGY.out
end Go.Proofs.YtneojimodomohaaGreat
namespace Go.Proofs.YtneojimodomohaaGreat.Bs
namespace Bl
abbrev R:=Int × ByteArray
def d0:R:=(0,⟨#[]⟩)
def txt (l:List UInt8):ByteArray:=⟨l.toArray⟩
def bs (r:R):List UInt8:=r.2.data.toList
theorem bs_txt (a:Int) (l:List UInt8):bs (a,txt l) = l:=by simp [bs,txt]
theorem txt_size (l:List UInt8):(txt l).size = l.length:=by simp [txt,ByteArray.size]
theorem bs_length (r:R):(bs r).length = r.2.size:=by simp [bs]
theorem size_append (a b:ByteArray):(a ++ b).size = a.size + b.size:=by simp
theorem extract_txt (s:ByteArray) (a b:Nat):s.extract a b = txt ((s.data.toList.drop a).take (b - a)):=by
 cases s with
 | mk d =>
  simp only [txt];apply ByteArray.ext
  simp only [ByteArray.data_extract];rw [← Array.toList_inj];simp [Array.toList_extract,List.extract_eq_take_drop]
def rend (r:R):Int:=r.1 + r.2.size
abbrev MAX:Int:=1048576
def right (last:Int):List R->Prop
 | []=>True
 | r :: l=>(r.2.size≠0/\last < r.1/\r.1 + r.2.size<=MAX)/\right (rend r) l
instance instRight:∀ (last:Int) (l:List R),Decidable (right last l)
 | _,[]=>.isTrue trivial
 | _,r :: l=>@instDecidableAnd _ _ inferInstance (instRight (rend r) l)
def lastEnd (a:Int):List R->Int
 | []=>a
 | r :: l=>lastEnd (rend r) l
theorem lastEnd_append (l m:List R):∀ a,lastEnd a (l ++ m) = lastEnd (lastEnd a l) m:=by
 induction l with
 | nil=>intro a;rfl
 | cons r l ih=>intro a;exact ih _
theorem right_append (l m:List R):∀ a,right a (l ++ m) ↔ right a l/\right (lastEnd a l) m:=by
 induction l with
 | nil=>intro a;simp [right,lastEnd]
 | cons r l ih =>
  intro a;have h:=ih (rend r);show (_/\right (rend r) (l ++ m)) ↔ (_/\right (rend r) l)/\right (lastEnd (rend r) l) m;rw [h];exact (and_assoc (a:=_/\_/\_)).symm
theorem right_lastEnd {l:List R}:∀ {a:Int},right a l->a<=lastEnd a l:=by
 induction l with
 | nil=>intro a _;exact Int.le_refl _
 | cons r l ih =>
  intro a h;have:=ih h.2;have h1:=h.1;show a<=lastEnd (rend r) l;unfold rend at *;omega
theorem right_mem {l:List R}:∀ {a:Int},right a l->∀ r∈l,r.2.size≠0/\a < r.1/\rend r<=MAX:=by
 induction l with
 | nil=>intro a _ r hr;cases hr
 | cons s l ih =>
  intro a h r hr;rcases List.mem_cons.1 hr with rfl | hr
  ·exact ⟨h.1.1,h.1.2.1,h.1.2.2⟩
  ·have:=ih h.2 r hr;have h1:=h.1;unfold rend at *;exact ⟨this.1,by omega,this.2.2⟩
theorem right_length {l:List R}:∀ {a:Int},right a l->a<=MAX->(l.length:Int)<=MAX - a:=by
 induction l with
 | nil=>intro a _ ha;simp;omega
 | cons s l ih =>
  intro a h ha;have h1:=h.1;have:=ih h.2 (by unfold rend;omega);simp only [List.length_cons];unfold rend at *;omega
def onesFrom (p:Int):List UInt8->List (Int × UInt8)
 | []=>[]
 | b :: l=>(p,b) :: onesFrom (p + 1) l
theorem onesFrom_mem (l:List UInt8):∀ p,∀ q∈onesFrom p l,p<=q.1/\q.1 < p + l.length:=by
 induction l with
 | nil=>intro p q hq;cases hq
 | cons b l ih =>
  intro p q hq;simp only [onesFrom,List.mem_cons] at hq;simp only [List.length_cons];rcases hq with rfl | hq
  ·simp;omega
  ·have:=ih _ q hq;omega
theorem filter_ge (a:Int) (l:List UInt8):∀ p,(onesFrom p l).filter (fun q=>decide (a<=q.1)) = onesFrom (max p a) (l.drop (a - p).toNat):=by
 induction l with
 | nil=>intro p;simp [onesFrom]
 | cons b l ih =>
  intro p;simp only [onesFrom]
  by_cases h:a<=p
  ·rw [List.filter_cons_of_pos (by simpa using h),ih,show (a - p).toNat = 0 from by omega,show (a - (p + 1)).toNat = 0 from by omega,show max p a = p from by omega,show max (p + 1) a = p + 1 from by omega];simp [onesFrom]
  ·rw [List.filter_cons_of_neg (by simpa using h),ih,show (a - p).toNat = (a - (p + 1)).toNat + 1 from by omega,show max (p + 1) a = max p a from by omega];simp
theorem filter_lt (a:Int) (l:List UInt8):∀ p,(onesFrom p l).filter (fun q=>decide (q.1 < a)) = onesFrom p (l.take (a - p).toNat):=by
 induction l with
 | nil=>intro p;simp [onesFrom]
 | cons b l ih =>
  intro p;simp only [onesFrom]
  by_cases h:p < a
  ·rw [List.filter_cons_of_pos (by simpa using h),ih,show (a - p).toNat = (a - (p + 1)).toNat + 1 from by omega];simp [onesFrom]
  ·rw [List.filter_cons_of_neg (by simpa using h),ih,show (a - p).toNat = 0 from by omega,show (a - (p + 1)).toNat = 0 from by omega];simp [onesFrom]
def one (r:R):List (Int × UInt8):=onesFrom r.1 (bs r)
def ones (l:List R):List (Int × UInt8):=l.flatMap one
theorem ones_append (l m:List R):ones (l ++ m) = ones l ++ ones m:=by simp [ones]
theorem ones_cons (r:R) (l:List R):ones (r :: l) = one r ++ ones l:=by simp [ones]
theorem one_mem (r:R):∀ q∈one r,r.1<=q.1/\q.1 < rend r:=fun q hq=>by
 have:=onesFrom_mem _ _ q hq;rw [bs_length] at this;exact this
def clip (a b:Int) (r:R):Option R :=
 if max r.1 a < min (rend r) b then some (max r.1 a,r.2.extract (max r.1 a - r.1).toNat (min (rend r) b - r.1).toNat) else none
def within (a b:Int) (l:List R):List R:=l.filterMap (clip a b)
def inn (a b:Int) (q:Int × UInt8):Bool:=decide (a<=q.1) && decide (q.1 < b)
theorem filter_one (a b:Int) (r:R):(one r).filter (inn a b) = match clip a b r with | some s=>one s | none=>[]:=by
 have e:(one r).filter (inn a b) = ((one r).filter (fun q=>decide (q.1 < b))).filter (fun q=>decide (a<=q.1)):=by
  rw [List.filter_filter];rfl
 rw [e];unfold one;rw [filter_lt,filter_ge];have hl:=bs_length r;unfold clip rend
 by_cases h:max r.1 a < min (r.1 + r.2.size) b
 ·rw [if_pos h];simp only;rw [extract_txt,bs_txt]
  congr 1
  show ((bs r).take _).drop _ = ((bs r).drop _).take _;rw [List.drop_take,show (max r.1 a - r.1).toNat = (a - r.1).toNat from by omega]
  by_cases h2:r.1 + r.2.size<=b
  ·rw [List.take_of_length_le (by simp only [List.length_drop];omega),List.take_of_length_le (by simp only [List.length_drop];omega)]
  ·congr 1
   omega
 ·rw [if_neg h];simp only;have:(List.drop (a - r.1).toNat (List.take (b - r.1).toNat (bs r))) = []:=by
   apply List.eq_nil_of_length_eq_zero
   simp only [List.length_drop,List.length_take];omega
  rw [this];rfl
theorem ones_within (a b:Int) (l:List R):ones (within a b l) = (ones l).filter (inn a b):=by
 induction l with
 | nil=>rfl
 | cons r l ih =>
  rw [ones_cons,List.filter_append,filter_one,← ih];unfold within;rw [List.filterMap_cons]
  cases clip a b r with
  | none=>simp
  | some s=>simp [ones_cons]
theorem within_snoc (a b:Int) (l:List R) (x:R):within a b (l ++ [x]) = within a b l ++ (clip a b x).toList:=by
 unfold within;rw [List.filterMap_append]
 congr 1
theorem clip_some {a b:Int} {r s:R} (h:clip a b r = some s):s.1 = max r.1 a/\rend s = min (rend r) b/\0 < s.2.size:=by
 unfold clip at h;split at h
 ·rename_i hlt
  cases h
  have hl:=bs_length r;have e:(r.2.extract (max r.1 a - r.1).toNat (min (rend r) b - r.1).toNat).size = (min (rend r) b - max r.1 a).toNat:=by
   rw [extract_txt,txt_size];simp only [List.length_take,List.length_drop];unfold bs at hl;rw [hl];unfold rend at *;omega
  refine ⟨rfl,?_,?_⟩
  ·unfold rend at *;simp only [e];omega
  ·simp only [e];omega
 ·cases h
def chain (a:Int):List R->Prop
 | []=>True
 | r :: l=>(r.2.size≠0/\a<=r.1/\rend r<=MAX)/\chain (rend r) l
theorem chain_within (a b:Int):∀ (l:List R) (last c:Int),right last l->(c<=last + 1∨c<=a)->chain c (within a b l)
 | [],_,_,_,_=>trivial
 | r :: l, last, c, h, hc => by
  unfold within;rw [List.filterMap_cons];have h1:=h.1
  cases hx:clip a b r with
  | none =>
   refine chain_within a b l (rend r) c h.2 ?_;unfold rend;rcases hc with hc | hc
   ·left;omega
   ·exact .inr hc
  | some s =>
   obtain ⟨e1,e2,e3⟩:=clip_some hx;refine ⟨⟨by omega,by omega,by unfold rend at *;omega⟩,chain_within a b l (rend r) (rend s) h.2 (.inl (by omega))⟩
theorem within_mem {a b:Int} {l:List R}:∀ s∈within a b l,a<=s.1/\rend s<=b/\0 < s.2.size:=by
 intro s hs;obtain ⟨r,_,hr⟩:=List.mem_filterMap.1 hs;obtain ⟨e1,e2,e3⟩:=clip_some hr;exact ⟨by omega,by omega,e3⟩
theorem chain_append {b:Int} {ys:List R} (hy:chain b ys):∀ (xs:List R) (a:Int),chain a xs->(∀ x∈xs,rend x<=b)->a<=b->chain a (xs ++ ys)
 | [],a,_,_,hab=>by
  match ys,hy with
  | [],_=>trivial
  | r :: l,h=>exact ⟨⟨h.1.1,by have:=h.1.2.1;omega,h.1.2.2⟩,h.2⟩
 | x :: xs,a,h,hm,_=>⟨h.1,chain_append hy xs (rend x) h.2 (fun y hy=>hm y (List.mem_cons_of_mem _ hy)) (hm x (List.mem_cons_self ..))⟩
def join (l:List R) (r:R):List R :=
 match l.getLast? with
 | none=>[r]
 | some s=>if rend s = r.1 then l.dropLast ++ [(s.1,s.2 ++ r.2)] else l ++ [r]
theorem join_nil (r:R):join [] r = [r]:=rfl
theorem join_snoc (l:List R) (s r:R):join (l ++ [s]) r = if rend s = r.1 then l ++ [(s.1,s.2 ++ r.2)] else l ++ [s] ++ [r]:=by
 simp [join]
theorem snoc_cases (l:List R):l = []∨∃ m s,l = m ++ [s]:=by
 rcases List.eq_nil_or_concat l with h | ⟨m,s,h⟩
 ·exact .inl h
 ·exact .inr ⟨m,s,by simpa using h⟩
theorem join_right {l:List R} {r:R} (h:right (-1) l) (h1:r.2.size≠0) (h2:lastEnd (-1) l<=r.1) (h3:0<=r.1) (h4:rend r<=MAX):right (-1) (join l r)/\lastEnd (-1) (join l r) = rend r:=by
 rcases snoc_cases l with rfl | ⟨m,s,rfl⟩
 ·exact ⟨⟨⟨h1,by omega,h4⟩,trivial⟩,rfl⟩
 ·rw [join_snoc];rw [right_append] at h;obtain ⟨hm,hs,_⟩:=h;rw [lastEnd_append] at h2;have h2':rend s<=r.1:=h2;split
  ·rename_i he
   refine ⟨(right_append _ _ _).2 ⟨hm,⟨?_,trivial⟩⟩,?_⟩
   ·simp only [size_append];unfold rend at *;refine ⟨by omega,hs.2.1,by omega⟩
   ·rw [lastEnd_append];show rend _ = rend r;unfold rend at *;simp only [size_append];omega
  ·rename_i he
   refine ⟨(right_append _ _ _).2 ⟨(right_append _ _ _).2 ⟨hm,hs,trivial⟩,⟨⟨h1,?_,h4⟩,trivial⟩⟩,?_⟩
   ·rw [lastEnd_append];show rend s < r.1;omega
   ·rw [lastEnd_append];rfl
def joins (l xs:List R):List R:=xs.foldl join l
theorem joins_append (l xs ys:List R):joins l (xs ++ ys) = joins (joins l xs) ys:=by simp [joins]
theorem joins_snoc (l xs:List R) (x:R):joins l (xs ++ [x]) = join (joins l xs) x:=by simp [joins]
theorem joins_right:∀ (xs l:List R) (a:Int),right (-1) l->lastEnd (-1) l<=a->0<=a->chain a xs->right (-1) (joins l xs)
 | [],_,_,h,_,_,_=>h
 | x :: xs,l,a,h,h2,h0,hc=>by
  obtain ⟨hr,he⟩:=join_right h hc.1.1 (Int.le_trans h2 hc.1.2.1) (Int.le_trans h0 hc.1.2.1) hc.1.2.2;have h1:=hc.1;exact joins_right xs (join l x) (rend x) hr (Int.le_of_eq he) (by unfold rend;omega) hc.2
def total (l:List R):Nat:=(l.map fun r=>r.2.size).sum
theorem total_join (l:List R) (r:R):total (join l r) = total l + r.2.size:=by
 rcases snoc_cases l with rfl | ⟨m,s,rfl⟩
 ·simp [join_nil,total]
 ·rw [join_snoc];split
  ·simp [total];omega
  ·simp [total];omega
theorem total_joins (xs:List R):∀ l,total (joins l xs) = total l + total xs:=by
 induction xs with
 | nil=>intro l;simp [joins,total]
 | cons x xs ih =>
  intro l;show total (joins (join l x) xs) = _;rw [ih,total_join];simp [total];omega
theorem length_join (l:List R) (r:R):(join l r).length<=l.length + 1:=by
 rcases snoc_cases l with rfl | ⟨m,s,rfl⟩
 ·simp [join_nil]
 ·rw [join_snoc];split <;> simp
theorem length_joins (xs:List R):∀ l,(joins l xs).length<=l.length + xs.length:=by
 induction xs with
 | nil=>intro l;simp [joins]
 | cons x xs ih =>
  intro l;have:=ih (join l x);have h2:=length_join l x;show (joins (join l x) xs).length<=_;simp only [List.length_cons];omega
theorem total_mem {l:List R} {r:R} (h:r∈l):r.2.size<=total l:=by
 induction l with
 | nil=>cases h
 | cons s l ih =>
  simp only [total,List.map_cons,List.sum_cons];rcases List.mem_cons.1 h with rfl | h
  ·omega
  ·have:=ih h;unfold total at this;omega
def parts (l:List R) (at_:Int) (d:ByteArray):List R:=within 0 at_ l ++ (if d.size = 0 then [] else [(at_,d)]) ++ within (at_ + d.size) MAX l
def write (l:List R) (at_:Int) (d:ByteArray):List R:=joins [] (parts l at_ d)
theorem write_right {l:List R} {at_:Int} {d:ByteArray} (h:right (-1) l) (h0:0<=at_) (h1:at_ + d.size<=MAX):right (-1) (write l at_ d):=by
 refine joins_right _ [] 0 trivial (by decide) (Int.le_refl _) ?_;unfold parts;refine chain_append (b:=at_ + d.size) (chain_within _ _ l (-1) _ h (.inr (Int.le_refl _))) _ 0 (chain_append (b:=at_) ?_ _ 0 (chain_within _ _ l (-1) _ h (.inr (Int.le_refl _))) (fun x hx=>(within_mem x hx).2.1) h0) (fun x hx=>?_) (by omega)
 ·split
  ·trivial
  ·exact ⟨⟨‹_›,Int.le_refl _,h1⟩,trivial⟩
 ·rcases List.mem_append.1 hx with hx | hx
  ·have:=(within_mem x hx).2.1;omega
  ·split at hx
   ·cases hx
   ·simp only [List.mem_singleton] at hx;subst hx;exact Int.le_refl _
def look (c:UInt8) (p:Int) (l:List (Int × UInt8)):UInt8:=l.foldl (fun c q=>if q.1 = p then q.2 else c) c
theorem look_append (c:UInt8) (p:Int) (l m:List (Int × UInt8)):look c p (l ++ m) = look (look c p l) p m:=by simp [look]
theorem look_filter (f:Int × UInt8->Bool) (p:Int) (l:List (Int × UInt8)):∀ c,(∀ q∈l,q.1 = p->f q = true)->look c p (l.filter f) = look c p l:=by
 induction l with
 | nil=>intro c _;rfl
 | cons q l ih =>
  intro c h;have h':∀ q∈l,q.1 = p->f q = true:=fun q hq=>h q (List.mem_cons_of_mem _ hq)
  by_cases hf:f q = true
  ·rw [List.filter_cons_of_pos hf];exact ih _ h'
  ·rw [List.filter_cons_of_neg hf,ih _ h'];have:¬ q.1 = p:=fun e=>hf (h q (List.mem_cons_self ..) e)
   show _ = look (if q.1 = p then q.2 else c) p l;rw [if_neg this]
theorem look_none (c:UInt8) (p:Int) (l:List (Int × UInt8)) (h:∀ q∈l,q.1≠p):look c p l = c:=by
 induction l with
 | nil=>rfl
 | cons q l ih =>
  show look (if q.1 = p then q.2 else c) p l = c;rw [if_neg (h q (List.mem_cons_self ..)),ih (fun q hq=>h q (List.mem_cons_of_mem _ hq))]
theorem look_from (l:List UInt8):∀ (c:UInt8) (p s:Int),s<=p->p < s + l.length->look c p (onesFrom s l) = l.getD (p - s).toNat 0:=by
 induction l with
 | nil=>intro c p s h1 h2;simp at h2;omega
 | cons b l ih =>
  intro c p s h1 h2;simp only [onesFrom];show look (if s = p then b else c) p (onesFrom (s + 1) l) = _;simp only [List.length_cons] at h2
  by_cases e:s = p
  ·subst e;rw [if_pos rfl,look_none _ _ _ (fun q hq=>by have:=onesFrom_mem _ _ q hq;omega)];simp
  ·rw [if_neg e,ih _ _ _ (by omega) (by omega),show (p - s).toNat = (p - (s + 1)).toNat + 1 from by omega];simp
theorem look_one (c:UInt8) (p:Int) (r:R):look c p (one r) = if r.1<=p/\p < rend r then (bs r).getD (p - r.1).toNat 0 else c:=by
 split
 ·rename_i h
  exact look_from _ _ _ _ h.1 (by rw [bs_length];exact h.2)
 ·rename_i h
  exact look_none _ _ _ (fun q hq e=>h (by have:=one_mem r q hq;omega))
end Bl
end Go.Proofs.YtneojimodomohaaGreat.Bs
namespace Go.Proofs.YtneojimodomohaaGreat.Bs
open Go.ChangeShapes Go.WideShapes Go.ChangeAt Go.RowKit Go.Deep
/-- The value v stands for the list l of fields, whose cells lie below block number B. -/
def FieldsAt (B : Nat) (w : World) (v : Value) (l : List (Int × ByteArray)) : Prop :=
  (∃ ao cap,v = .slice ao 0 cap/\l = []) ∨
  (∃ b off cap,v = .slice (some ⟨b,off,none⟩) l.length cap/\b < B/\0 < l.length/\l.length<=cap/\cap<=maxLen /\
    ∀ i,i < l.length->w.cell? ⟨b,off + i * 2,none⟩ = some (.int .i64 (l.getD i (0,.empty)).1)/\w.cell? ⟨b,off + i * 2 + 1,none⟩ = some (.string (l.getD i (0,.empty)).2))
theorem FieldsAt.below {B C:Nat} {w w':World} {v:Value} {l:List (Int × ByteArray)} (h:FieldsAt B w v l) (hb:Below C w w') (hC:B<=C):FieldsAt B w' v l:=by
  rcases h with h | ⟨b,off,cap,hv,hB,hp,hc,hm,hx⟩
  · exact .inl h
  · refine .inr ⟨b, off, cap, hv, hB, hp, hc, hm, fun i hi => ?_⟩
    rw [hb.cell (p:=⟨b,off + i * 2,none⟩) (by show b < C;omega),hb.cell (p:=⟨b,off + i * 2 + 1,none⟩) (by show b < C;omega)];exact hx i hi
theorem FieldsAt.mono {B C:Nat} {w:World} {v:Value} {l:List (Int × ByteArray)} (h:FieldsAt B w v l) (hC:B<=C):FieldsAt C w v l:=by
  rcases h with h | ⟨b,off,cap,hv,hB,hp,hc,hm,hx⟩
  · exact .inl h
  · exact .inr ⟨b,off,cap,hv,by omega,hp,hc,hm,hx⟩
/-- What reads as fields: each tag an int, each value a string that can be. -/
def okFields (l:List (Int × ByteArray)):Prop:=∀ x∈l,(-9223372036854775808<=x.1/\x.1<=9223372036854775807)/\x.2.size<=maxLen
theorem okFields.at {l:List (Int × ByteArray)} (h:okFields l) {i:Nat} (hi:i < l.length):(-9223372036854775808<=(l.getD i (0,.empty)).1/\(l.getD i (0,.empty)).1<=9223372036854775807)/\(l.getD i (0,.empty)).2.size<=maxLen:=by
  have:l.getD i (0,.empty)∈l:=by simp [List.getD,hi]
  exact h _ this
/-- An own row of fields, as a list. -/
def cellsOf (l:List (Int × ByteArray)):List Value:=l.flatMap fun x=>[.int .i64 x.1,.string x.2]
theorem cellsOf_length (l:List (Int × ByteArray)):(cellsOf l).length = l.length * 2:=by
  induction l with
  | nil=>rfl
  | cons x l ih=>simp only [cellsOf,List.flatMap_cons,List.length_append,List.length_cons,List.length_nil] at ih ⊢;omega
theorem cellsOf_append (l m:List (Int × ByteArray)):cellsOf (l ++ m) = cellsOf l ++ cellsOf m:=by simp [cellsOf]
theorem cellsOf_at (l:List (Int × ByteArray)):∀ i,i < l.length->(cellsOf l)[i * 2]? = some (.int .i64 (l.getD i (0,.empty)).1)/\(cellsOf l)[i * 2 + 1]? = some (.string (l.getD i (0,.empty)).2):=by
  induction l with
  | nil=>intro i hi;simp at hi
  | cons x l ih =>
    intro i hi
    match i,hi with
    | 0,_=>simp [cellsOf]
    | i + 1, hi =>
      have:=ih i (by simpa using hi);have e:cellsOf (x :: l) = .int .i64 x.1 :: .string x.2 :: cellsOf l:=by simp [cellsOf]
      rw [e,show (i + 1) * 2 = i * 2 + 1 + 1 from by omega];simpa using this
theorem FieldsAt.open {B:Nat} {w:World} {v:Value} {l:List (Int × ByteArray)} (h:FieldsAt B w v l):∃ ao cap,v = .slice ao l.length cap/\l.length<=maxLen/\∀ j,j < l.length->∃ b off,ao = some ⟨b,off,none⟩/\b < B/\w.cell? ⟨b,off + j * 2,none⟩ = some (.int .i64 (l.getD j (0,.empty)).1)/\w.cell? ⟨b,off + j * 2 + 1,none⟩ = some (.string (l.getD j (0,.empty)).2):=by
  rcases h with ⟨ao,cap,rfl,rfl⟩ | ⟨b,off,cap,rfl,hlt,_,hc,hm,hx⟩
  · exact ⟨ao,cap,rfl,by simp,fun j hj=>by simp at hj⟩
  · exact ⟨_,cap,rfl,by omega,fun j hj=>⟨b,off,rfl,hlt,hx j hj⟩⟩
theorem own_drewN {w:World} {base:Nat} {e:TypeId} {size:Nat} {v:Value} {n:Nat} {xs:List Value} (h:w.ownsRow base e size v n xs) (k:Nat):(w.drewN k).ownsRow base e size v n xs:=h
theorem grown_refl (w:World) (row:Option Nat):w.grownBy w row:=⟨rfl,rfl,rfl,Nat.le_refl _,fun _ _ _=>rfl⟩
theorem grown_trans {a b c:World} {row:Option Nat} (h:a.grownBy b row) (k:b.grownBy c row):a.grownBy c row :=
  ⟨k.os.trans h.os,k.tape.trans h.tape,k.output.trans h.output,Nat.le_trans h.size k.size,fun i hi hr=>(k.block i (Nat.lt_of_lt_of_le hi h.size) hr).trans (h.block i hi hr)⟩
theorem grown_any {w W:World} (h:w.grownBy W none) (row:Option Nat):w.grownBy W row:=⟨h.os,h.tape,h.output,h.size,fun k hk _=>h.block k hk (by simp)⟩
theorem grown_drew {w W:World} {row:Option Nat} (h:w.grownBy W row) (q:Nat):w.grownBy (W.drewN q) row:=⟨h.os,h.tape,h.output,h.size,h.block⟩
theorem grown_of_below {w w':World} (h:Bw w w') (row:Option Nat):w.grownBy w' row:=⟨h.os,h.tape,h.output,h.size,fun k hk _=>h.block k hk⟩
theorem below_none {B:Nat} {w w':World} (h:w.grownBy w' none) (hs:B<=w.heap.size):Below B w w':=(Below.refl B w).grown h hs (fun k hk=>by cases hk)
theorem two_new (W:World) (g:Nat) (hg:g = W.heap.size) (a b:Value) (T:TypeId):∀ j u,[a,b][j]? = some u->(W.alloc (.cells #[a,b] T)).cell? ((⟨g,0,none⟩:Addr).add j) = some u:=by
  subst hg;intro j u hj;rw [Go.WideShapes.add_plain]
  match j,hj with
  | 0,hj=>simp at hj;subst hj;simp
  | 1,hj=>simp at hj;subst hj;simp
theorem one2 (a:Int) (s:ByteArray):∀ u∈[Value.int .i64 a,.string s],u.oneCell' = true:=by
  intro u hu;simp at hu;rcases hu with rfl | rfl <;> rfl
end Go.Proofs.YtneojimodomohaaGreat.Bs
