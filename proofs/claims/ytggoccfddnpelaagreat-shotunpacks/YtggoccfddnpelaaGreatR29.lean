/- ZPi, as one. -/
import Derived.Test.YtggoccfddnpelaaGreatR28
namespace Go.Proofs.YtggoccfddnpelaaGreat
open Go.ChangeShapes Go.WideShapes Go.ChangeAt Go.RowKit Go.Deep It
set_option maxRecDepth 100000
set_option linter.unusedSimpArgs false in
set_option maxHeartbeats 8000000 in
theorem pino_any {S : Nat → Prop} (x : Ino) (ra ea : Option Addr) (rc ec : Nat) (w : World) (hx : Sh.Bd x) (hl1 : x.runs.length ≤ 30000) (hl2 : x.ents.length ≤ 30000) (hR : At ER S w (.slice ra x.runs.length rc) x.runs) (hE : At EE S w (.slice ea x.ents.length ec) x.ents) :
    Calls Tryz.prog 23 #[.agg #[.int .i64 x.gen,.int .i64 x.kind,.int .i64 x.links,.int .i64 x.size,.int .i64 x.stamp,.slice ra x.runs.length rc,.slice ea x.ents.length ec,.int .i64 x.next]] w fun e w'=>e = .returned (.string (Sh.inoB x))/\Below w.heap.size w w':=by
  have HX:Hid (Sh.Bd x):=hx
  have HL:Hid (x.runs.length<=30000/\x.ents.length<=30000):=⟨hl1,hl2⟩
  obtain ⟨na,hna⟩:∃ n,x.runs.length = n:=⟨_,rfl⟩
  obtain ⟨nb,hnb⟩:∃ n,x.ents.length = n:=⟨_,rfl⟩
  have HNA:Hid (x.runs.length = na):=hna
  have HNB:Hid (x.ents.length = nb):=hnb
  have hna':na<=30000:=by omega
  have hnb':nb<=30000:=by omega
  have HRX:Hid (∀ k r,x.runs[k]? = some r->∃ b off,ra = some ⟨b,off,none⟩/\b < w.heap.size/\w.cell? ⟨b,off + k * 2,none⟩ = some (.int .i64 r.1)/\w.cell? ⟨b,off + k * 2 + 1,none⟩ = some (.string r.2)):=fun k r hk=>by
    obtain ⟨ao',cap',he,-,hx⟩:=hR.open
    injection he with h1 h2 h3
    subst h1
    obtain ⟨b,off,hb,-,hB,hc⟩:=hx k r hk
    exact ⟨b,off,hb,hB,hc 0 _ rfl,hc 1 _ rfl⟩
  have HEX:Hid (∀ k r,x.ents[k]? = some r->∃ b off,ea = some ⟨b,off,none⟩/\b < w.heap.size/\w.cell? ⟨b,off + k * 4,none⟩ = some (.string r.1)/\w.cell? ⟨b,off + k * 4 + 1,none⟩ = some (.int .i64 r.2.1)/\w.cell? ⟨b,off + k * 4 + 2,none⟩ = some (.int .i64 r.2.2.1)/\w.cell? ⟨b,off + k * 4 + 3,none⟩ = some (.int .i64 r.2.2.2)):=fun k r hk=>by
    obtain ⟨ao',cap',he,-,hx⟩:=hE.open
    injection he with h1 h2 h3
    subst h1
    obtain ⟨b,off,hb,-,hB,hc⟩:=hx k r hk
    exact ⟨b,off,hb,hB,hc 0 _ rfl,hc 1 _ rfl,hc 2 _ rfl,hc 3 _ rfl⟩
  obtain ⟨A,hA⟩:∃ n,n = w.heap.size:=⟨_,rfl⟩
  obtain ⟨n0,hn0⟩:∃ n,n = w.heap.size:=⟨_,rfl⟩
  obtain ⟨ox,hox⟩:∃ o:Array Value,o = #[.int .i64 x.gen,.int .i64 x.kind,.int .i64 x.links,.int .i64 x.size,.int .i64 x.stamp,.slice ra na rc,.slice ea nb ec,.int .i64 x.next]:=⟨_,rfl⟩
  have HOX:Hid (ox = #[.int .i64 x.gen,.int .i64 x.kind,.int .i64 x.links,.int .i64 x.size,.int .i64 x.stamp,.slice ra na rc,.slice ea nb ec,.int .i64 x.next]):=hox
  obtain ⟨W,hW⟩:∃ W,W = w.alloc (.cells ox 52):=⟨_,rfl⟩
  have HP0:Hid (PB 70 52 A n0 ox [] (.slice none 0 0) w W):=by
    show PB 70 52 A n0 ox [] (.slice none 0 0) w W
    rw [hW,hA,hn0]
    exact ⟨heap_alloc_new w _,Row.nil _ _ _ _,Nat.le_refl _,(Below.refl _ _).alloc (Nat.le_refl _) _,Nat.le_refl _⟩
  have HW:Hid (W = w.alloc (.cells ox 52)/\A = w.heap.size):=⟨hW,hA⟩
  have HN0:Hid (n0 = w.heap.size):=hn0
  obtain ⟨bA,hbA⟩:∃ b,Ks.Rs.At.packOut x.kind x.links x.size x.stamp = b:=⟨_,rfl⟩
  obtain ⟨bG,hbG⟩:∃ b,Sh.nb x.gen 6 = b:=⟨_,rfl⟩
  obtain ⟨bN,hbN⟩:∃ b,Sh.nb x.next 6 = b:=⟨_,rfl⟩
  have HHD:Hid (Sh.head x = bG ++ bA ++ bN):=by show _ = _;unfold Sh.head;rw [hbA,hbG,hbN]
  have hst:=Ks.Rs.At.right_iff.1 hx.at_
  unfold Ks.Rs.At.rightP at hst
  have HCA:Hid (∀ V,Calls Tryz.prog 46 #[VA x.kind x.links x.size x.stamp] V fun e w'=>e = .returned (.tuple #[.string bA,.int .i64 (Ks.Rs.At.packErr x.kind x.links x.size x.stamp)])/\Below V.heap.size V w'):=fun V=>by rw [← hbA];exact Ks.Rs.apack_any _ _ _ _ V (by omega) (by omega) (by omega) (by omega)
  have HC1:Hid (∀ V,Calls Tryz.prog 22 #[.int .i64 x.gen,.int .i64 6] V fun e w'=>e = .returned (.string bG)/\Below V.heap.size V w'):=fun V=>by rw [← hbG];exact shnum_any (x.gen) 6 V (by have:=hx.gen;omega)
  have HC2:Hid (∀ V,Calls Tryz.prog 22 #[.int .i64 x.next,.int .i64 6] V fun e w'=>e = .returned (.string bN)/\Below V.heap.size V w'):=fun V=>by rw [← hbN];exact shnum_any (x.next) 6 V (by have:=hx.next;omega)
  have hz1:bG.size = 6/\bA.size = 12/\bN.size = 6:=by
    rw [← hbG,← hbN,← hbA]
    exact ⟨(Sh.le6 (n:=x.gen) ⟨by have:=hx.gen;omega,hx.gen.2⟩).1,(Ks.Rs.At.back hx.at_).1,(Sh.le6 hx.next).1⟩
  have hq1:¬ 9223372036854775807 < bG.size + bA.size:=by omega
  have hq2:¬ 9223372036854775807 < bG.size + bA.size + bN.size:=by omega
  have hq2':¬ 9223372036854775807 < (bG ++ bA).size + bN.size:=by rw [ByteArray.size_append];omega
  rw [hna,hnb]
  rw [hox] at hW
  clear hx hl1 hl2 hna hnb hR hE hA hn0 hox hbA hbG hbN hst
  go_enter Tryz.func23,Tryz.ntmps23
  go_wp2_with fail
  rw [← hW,← HW.out.2]
  clear hW
  have HOB:Hid (W.heap[A]? = some (.cells #[.int .i64 x.gen,.int .i64 x.kind,.int .i64 x.links,.int .i64 x.size,.int .i64 x.stamp,.slice ra na rc,.slice ea nb ec,.int .i64 x.next] 52)):=by have h:=HP0.out.box;rw [HOX.out] at h;exact h
  refine (HCA.out _).mono ?_
  rintro e w1 ⟨rfl,hb⟩
  have HP1:Hid (PB 70 52 A n0 ox [] (.slice none 0 0) w w1):=HP0.out.up hb
  have HO1:Hid (w1.heap[A]? = some (.cells #[.int .i64 x.gen,.int .i64 x.kind,.int .i64 x.links,.int .i64 x.size,.int .i64 x.stamp,.slice ra na rc,.slice ea nb ec,.int .i64 x.next] 52)):=by have h:=HP1.out.box;rw [HOX.out] at h;exact h
  clear hb HOB HP0
  go_wp2_with fail
  refine wp_region_any (by kernel_rfl) ?_
  change wpAny _ _ _ _ _ _ _ (World.drew _)
  refine wpAny_take (i:=0) (v:=?va0) rfl (by kernel_rfl) (by kernel_rfl) (by kernel_rfl) (fun _ _ _ h=>h) (Or.inl ⟨by rfl,?ha0⟩) ?ra0
  case ha0=>(intro w;go_simp;try with_reducible rfl)
  try simp only [Act.put,List.setIfInBounds_toArray,List.set_cons_zero,List.set_cons_succ]
  refine wpAny_take (i:=3) (v:=?va3) rfl (by kernel_rfl) (by kernel_rfl) (by kernel_rfl) (fun _ _ _ h=>h) (Or.inl ⟨by rfl,?ha3⟩) ?ra3
  case ha3=>(intro w;go_simp;try with_reducible rfl)
  try simp only [Act.put,List.setIfInBounds_toArray,List.set_cons_zero,List.set_cons_succ]
  refine wpAny_take (i:=5) (v:=?va5) rfl (by kernel_rfl) (by kernel_rfl) (by kernel_rfl) (fun _ _ _ h=>h) (Or.inl ⟨by rfl,?ha5⟩) ?ra5
  case ha5=>(intro w;go_simp;try with_reducible rfl)
  try simp only [Act.put,List.setIfInBounds_toArray,List.set_cons_zero,List.set_cons_succ]
  have HS:(fun V:World=>V.cell? ⟨A,0,none⟩ = some (.int .i64 x.gen)/\V.cell? ⟨A,7,none⟩ = some (.int .i64 x.next)) w1.drew:=⟨cell_at HO1.out 0,cell_at HO1.out 7⟩
  refine Fst.any_of (late:=fun k=>[11].contains k) (S:=(fun V:World=>V.cell? ⟨A,0,none⟩ = some (.int .i64 x.gen)/\V.cell? ⟨A,7,none⟩ = some (.int .i64 x.next))) _ _ _ _ ?_
  refine Fst.take (ls:=[11]) (i:=1) (v:=?va1) rfl (by kernel_rfl) (by kernel_rfl) (by kernel_rfl) (by kernel_rfl) (by kernel_rfl) (fun _ _ _ h=>h) (Or.inl ⟨by rfl,?ha1⟩) HS ?ra1
  case ha1=>(rintro V ⟨s0,s1⟩;go_simp;try with_reducible rfl)
  try simp only [Act.put,List.setIfInBounds_toArray,List.set_cons_zero,List.set_cons_succ]
  refine Fst.take (ls:=[11]) (i:=6) (v:=?va6) rfl (by kernel_rfl) (by kernel_rfl) (by kernel_rfl) (by kernel_rfl) (by kernel_rfl) (fun _ _ _ h=>h) (Or.inl ⟨by rfl,?ha6⟩) HS ?ra6
  case ha6=>(rintro V ⟨s0,s1⟩;go_simp;try with_reducible rfl)
  try simp only [Act.put,List.setIfInBounds_toArray,List.set_cons_zero,List.set_cons_succ]
  clear HS
  refine Fst.one (late:=fun k=>[11].contains k) (i:=2) (by kernel_rfl) rfl (fun K hK=>?_)
  go_simp
  refine (HC1.out w1.drew).mono ?_
  rintro e wc1 ⟨rfl,hb⟩
  have HP1:Hid (PB 70 52 A n0 ox [] (.slice none 0 0) w wc1):=HP1.out.drew.up hb
  have HE1:Hid (wc1.heap[A]? = some (.cells #[.int .i64 x.gen,.int .i64 x.kind,.int .i64 x.links,.int .i64 x.size,.int .i64 x.stamp,.slice ra na rc,.slice ea nb ec,.int .i64 x.next] 52)):=(hb.block _ (Array.getElem?_eq_some_iff.1 HO1.out).1).trans HO1.out
  clear hb
  (try go_wp2_with fail)
  have HS:(fun V:World=>V.cell? ⟨A,0,none⟩ = some (.int .i64 x.gen)/\V.cell? ⟨A,7,none⟩ = some (.int .i64 x.next)) wc1:=⟨cell_at HE1.out 0,cell_at HE1.out 7⟩
  refine hK _ _ HS ?_
  clear hK K
  try simp only [Act.put,List.setIfInBounds_toArray,List.set_cons_zero,List.set_cons_succ]
  refine Fst.take (ls:=[11]) (i:=4) (v:=?va4) rfl (by kernel_rfl) (by kernel_rfl) (by kernel_rfl) (by kernel_rfl) (by kernel_rfl) (fun _ _ _ h=>h) (Or.inl ⟨by rfl,?ha4⟩) HS ?ra4
  case ha4=>(rintro V ⟨s0,s1⟩;go_simp;try with_reducible rfl)
  try simp only [Act.put,List.setIfInBounds_toArray,List.set_cons_zero,List.set_cons_succ]
  clear HS
  refine Fst.one (late:=fun k=>[11].contains k) (i:=7) (by kernel_rfl) rfl (fun K hK=>?_)
  go_simp
  refine (HC2.out wc1).mono ?_
  rintro e wc2 ⟨rfl,hb⟩
  have HP2:Hid (PB 70 52 A n0 ox [] (.slice none 0 0) w wc2):=HP1.out.up hb
  have HE2:Hid (wc2.heap[A]? = some (.cells #[.int .i64 x.gen,.int .i64 x.kind,.int .i64 x.links,.int .i64 x.size,.int .i64 x.stamp,.slice ra na rc,.slice ea nb ec,.int .i64 x.next] 52)):=(hb.block _ (Array.getElem?_eq_some_iff.1 HE1.out).1).trans HE1.out
  clear hb
  (try go_wp2_with fail)
  have HS:(fun V:World=>V.cell? ⟨A,0,none⟩ = some (.int .i64 x.gen)/\V.cell? ⟨A,7,none⟩ = some (.int .i64 x.next)) wc2:=⟨cell_at HE2.out 0,cell_at HE2.out 7⟩
  refine hK _ _ HS ?_
  clear hK K
  try simp only [Act.put,List.setIfInBounds_toArray,List.set_cons_zero,List.set_cons_succ]
  refine Fst.take (ls:=[11]) (i:=8) (v:=?va8) rfl (by kernel_rfl) (by kernel_rfl) (by kernel_rfl) (by kernel_rfl) (by kernel_rfl) (fun _ _ _ h=>h) (Or.inl ⟨by rfl,?ha8⟩) HS ?ra8
  case ha8=>(rintro V ⟨s0,s1⟩;go_simp;try with_reducible rfl)
  try simp only [Act.put,List.setIfInBounds_toArray,List.set_cons_zero,List.set_cons_succ]
  refine Fst.take (ls:=[11]) (i:=9) (v:=?va9) rfl (by kernel_rfl) (by kernel_rfl) (by kernel_rfl) (by kernel_rfl) (by kernel_rfl) (fun _ _ _ h=>h) (Or.inl ⟨by rfl,?ha9⟩) HS ?ra9
  case ha9=>(rintro V ⟨s0,s1⟩;go_simp;try with_reducible rfl)
  try simp only [Act.put,List.setIfInBounds_toArray,List.set_cons_zero,List.set_cons_succ]
  clear HS
  refine Fst.one (late:=fun k=>[11].contains k) (i:=10) (by kernel_rfl) rfl (fun K hK=>?_)
  go_simp
  (try go_wp2_with fail)
  obtain ⟨W6,hW6⟩:∃ V,V = wc2.alloc (.cells #[.int .i64 1,.string (bG ++ bA ++ bN)] 70):=⟨_,rfl⟩
  have HE6:Hid (W6.heap[A]? = some (.cells #[.int .i64 x.gen,.int .i64 x.kind,.int .i64 x.links,.int .i64 x.size,.int .i64 x.stamp,.slice ra na rc,.slice ea nb ec,.int .i64 x.next] 52)):=by show _ = _;rw [hW6];exact (Below.heap_alloc _ _ _ (Array.getElem?_eq_some_iff.1 HE2.out).1).trans HE2.out
  have HX6:Hid (W6.heap[wc2.heap.size]? = some (.cells #[.int .i64 1,.string (bG ++ bA ++ bN)] 70)):=by show _ = _;rw [hW6];exact heap_alloc_new _ _
  have HN6:Hid (PB 70 52 A n0 ox [] (.slice none 0 0) w W6/\A < wc2.heap.size):=by show PB 70 52 A n0 ox [] (.slice none 0 0) w W6/\_;rw [hW6];exact ⟨HP2.out.al _,HP2.out.lt⟩
  rw [← hW6]
  have HS:(fun V:World=>V.cell? ⟨A,0,none⟩ = some (.int .i64 x.gen)/\V.cell? ⟨A,7,none⟩ = some (.int .i64 x.next)) W6:=⟨cell_at HE6.out 0,cell_at HE6.out 7⟩
  refine hK _ _ HS ?_
  clear hK K hW6
  try simp only [Act.put,List.setIfInBounds_toArray,List.set_cons_zero,List.set_cons_succ]
  refine Fst.rest (by kernel_rfl) ?_
  clear HS
  refine wpAny_ready (rs:=[11]) (by kernel_rfl) (by simp) ?_
  refine AllReady.cons rfl (fun K hK=>?_) AllReady.nil
  go_simp
  (try go_wp2_with fail)
  first | (refine hK _ _ ?_;clear hK K) | skip
  try simp only [Act.put,List.setIfInBounds_toArray,List.set_cons_zero,List.set_cons_succ]
  refine wpAny_done (by kernel_rfl) ?_ _
  have HP7:Hid (PB 70 52 A n0 ox [(1,Sh.head x)] (.slice (some ⟨wc2.heap.size,0,none⟩) 1 1) w W6):=⟨HN6.out.1.box,by rw [HHD.out];exact row_one (f:=(1,bG ++ bA ++ bN)) HX6.out HP2.out.sz,HN6.out.1.base,HN6.out.1.bl,HN6.out.1.st⟩
  clear HP1 HO1 HP2 HE1 HE2 HX6 HN6 HC1 HC2 HCA hq1 hq2 hq2' hz1
  have HE7:Hid (W6.heap[A]? = some (.cells #[.int .i64 x.gen,.int .i64 x.kind,.int .i64 x.links,.int .i64 x.size,.int .i64 x.stamp,.slice ra na rc,.slice ea nb ec,.int .i64 x.next] 52)):=HE6.out
  have c5:W6.cell? ⟨A,5,none⟩ = some (.slice ra na rc):=cell_at HE7.out 5
  clear HE6
  go_wp2_with fail
  clear c5
  go_loopw [5,32] (fun g i wr=>∃ (k:Nat) (v:Value) (ls:List Sh.F),k<=na/\i = .int .i64 k/\g = v/\Hid (PB 70 52 A n0 ox ls v w wr)/\Hid (ls = [(1,Sh.head x)] ++ (x.runs.take k).map Sh.runF)) (fun _ i _=>na - (intOf i).toNat)
  case atStart=>exact ⟨0,_,_,Nat.zero_le _,rfl,rfl,HP7,by show _ = _;simp⟩
  case round =>
    obtain ⟨k,v,ls,hk,rfl,rfl,HP,HLS⟩:=hrel
    obtain ⟨va,vm,vc,rfl⟩:=HP.out.slice
    by_cases hlt:k < na
    · obtain ⟨r, hr⟩ : ∃ r, x.runs[k]? = some r := ⟨_, List.getElem?_eq_getElem (by rw [HNA.out]; exact hlt)⟩
      have HRK:Hid (x.runs[k]? = some r):=hr
      obtain ⟨b0,off,rfl,hb0,c0',c1'⟩:=HRX.out k r hr
      have c0:wr.cell? ⟨b0,off + k * 2,none⟩ = some (.int .i64 r.1):=(HP.out.bl.cell (p:=⟨b0,off + k * 2,none⟩) (by rw [HN0.out];exact hb0)).trans c0'
      have c1:wr.cell? ⟨b0,off + k * 2 + 1,none⟩ = some (.string r.2):=(HP.out.bl.cell (p:=⟨b0,off + k * 2 + 1,none⟩) (by rw [HN0.out];exact hb0)).trans c1'
      have hrb:=HX.out.runs r (List.mem_of_getElem? hr)
      have HLEN:Hid (ls.length<=60001):=by
        show ls.length<=60001
        rw [HLS.out,List.length_append,List.length_map,List.length_take]
        simp
        omega
      obtain ⟨b1,hb1⟩:∃ b,Sh.nb r.1 4 = b:=⟨_,rfl⟩
      have HB1:Hid (Sh.nb r.1 4 = b1):=hb1
      have hz1:b1.size = 4:=by rw [← hb1];exact (Sh.le4 hrb.1).1
      have HC1:Hid (∀ V,Calls Tryz.prog 22 #[.int .i64 r.1,.int .i64 4] V fun e w'=>e = .returned (.string b1)/\Below V.heap.size V w'):=fun V=>by rw [← hb1];exact shnum_any (r.1) 4 V (by have:=hrb.1;omega)
      have hq1:¬ 9223372036854775807 < b1.size + r.2.size:=by have:=hrb.2;omega
      have HEQ:Hid ((2,b1 ++ r.2) = Sh.runF r):=by show _ = _;unfold Sh.runF;rw [HB1.out]
      obtain ⟨B,hB⟩:∃ n,n = wr.heap.size:=⟨_,rfl⟩
      obtain ⟨W4,hW4⟩:∃ V,V = wr.alloc (.cells #[.int .i64 r.1,.string r.2] 67):=⟨_,rfl⟩
      have HP4:Hid (PB 70 52 A n0 ox ls (.slice va vm vc) w W4):=by show PB 70 52 A n0 ox ls (.slice va vm vc) w W4;rw [hW4];exact HP.out.al _
      have HE4:Hid (W4.heap[B]? = some (.cells #[.int .i64 r.1,.string r.2] 67)):=by show _ = _;rw [hW4,hB];exact heap_alloc_new _ _
      have hlt':(k:Int) < (na:Int):=by omega
      clear hb0 c0' c1' hr hrb hb1 hz1 HP
      go_wp2_with fail
      rw [← hW4,← hB]
      clear hW4 hB c0 c1
      refine wp_region_any (by kernel_rfl) ?_
      change wpAny _ _ _ _ _ _ _ (World.drew _)
      refine wpAny_take (i:=0) (v:=?vb0) rfl (by kernel_rfl) (by kernel_rfl) (by kernel_rfl) (fun _ _ _ h=>h) (Or.inl ⟨by rfl,?hb0⟩) ?rb0
      case hb0=>(intro w;go_simp;try with_reducible rfl)
      try simp only [Act.put,List.setIfInBounds_toArray,List.set_cons_zero,List.set_cons_succ]
      refine wpAny_take (i:=1) (v:=?vb1) rfl (by kernel_rfl) (by kernel_rfl) (by kernel_rfl) (fun _ _ _ h=>h) (Or.inl ⟨by rfl,?hb1⟩) ?rb1
      case hb1=>(intro w;go_simp;try with_reducible rfl)
      try simp only [Act.put,List.setIfInBounds_toArray,List.set_cons_zero,List.set_cons_succ]
      refine wpAny_take (i:=4) (v:=?vb4) rfl (by kernel_rfl) (by kernel_rfl) (by kernel_rfl) (fun _ _ _ h=>h) (Or.inl ⟨by rfl,?hb4⟩) ?rb4
      case hb4=>(intro w;go_simp;try with_reducible rfl)
      try simp only [Act.put,List.setIfInBounds_toArray,List.set_cons_zero,List.set_cons_succ]
      have HS:(fun V:World=>V.cell? ⟨B,0,none⟩ = some (.int .i64 r.1)/\V.cell? ⟨B,1,none⟩ = some (.string r.2)) W4.drew:=⟨cell_at HE4.out 0,cell_at HE4.out 1⟩
      refine Fst.any_of (late:=fun k=>[10].contains k) (S:=(fun V:World=>V.cell? ⟨B,0,none⟩ = some (.int .i64 r.1)/\V.cell? ⟨B,1,none⟩ = some (.string r.2))) _ _ _ _ ?_
      refine Fst.take (ls:=[10]) (i:=2) (v:=?vb2) rfl (by kernel_rfl) (by kernel_rfl) (by kernel_rfl) (by kernel_rfl) (by kernel_rfl) (fun _ _ _ h=>h) (Or.inl ⟨by rfl,?hb2⟩) HS ?rb2
      case hb2=>(rintro V ⟨s0,s1⟩;go_simp;try with_reducible rfl)
      try simp only [Act.put,List.setIfInBounds_toArray,List.set_cons_zero,List.set_cons_succ]
      refine Fst.take (ls:=[10]) (i:=5) (v:=?vb5) rfl (by kernel_rfl) (by kernel_rfl) (by kernel_rfl) (by kernel_rfl) (by kernel_rfl) (fun _ _ _ h=>h) (Or.inl ⟨by rfl,?hb5⟩) HS ?rb5
      case hb5=>(rintro V ⟨s0,s1⟩;go_simp;try with_reducible rfl)
      try simp only [Act.put,List.setIfInBounds_toArray,List.set_cons_zero,List.set_cons_succ]
      clear HS
      refine Fst.one (late:=fun k=>[10].contains k) (i:=3) (by kernel_rfl) rfl (fun K hK=>?_)
      go_simp
      refine (HC1.out W4.drew).mono ?_
      rintro e wc1 ⟨rfl,hb⟩
      have HP1:Hid (PB 70 52 A n0 ox ls (.slice va vm vc) w wc1):=HP4.out.drew.up hb
      have HE1:Hid (wc1.heap[B]? = some (.cells #[.int .i64 r.1,.string r.2] 67)):=(hb.block _ (Array.getElem?_eq_some_iff.1 HE4.out).1).trans HE4.out
      clear hb
      (try go_wp2_with fail)
      have HS:(fun V:World=>V.cell? ⟨B,0,none⟩ = some (.int .i64 r.1)/\V.cell? ⟨B,1,none⟩ = some (.string r.2)) wc1:=⟨cell_at HE1.out 0,cell_at HE1.out 1⟩
      refine hK _ _ HS ?_
      clear hK K
      try simp only [Act.put,List.setIfInBounds_toArray,List.set_cons_zero,List.set_cons_succ]
      refine Fst.take (ls:=[10]) (i:=6) (v:=?vb6) rfl (by kernel_rfl) (by kernel_rfl) (by kernel_rfl) (by kernel_rfl) (by kernel_rfl) (fun _ _ _ h=>h) (Or.inl ⟨by rfl,?hb6⟩) HS ?rb6
      case hb6=>(rintro V ⟨s0,s1⟩;go_simp;try with_reducible rfl)
      try simp only [Act.put,List.setIfInBounds_toArray,List.set_cons_zero,List.set_cons_succ]
      refine Fst.take (ls:=[10]) (i:=7) (v:=?vb7) rfl (by kernel_rfl) (by kernel_rfl) (by kernel_rfl) (by kernel_rfl) (by kernel_rfl) (fun _ _ _ h=>h) (Or.inl ⟨by rfl,?hb7⟩) HS ?rb7
      case hb7=>(rintro V ⟨s0,s1⟩;go_simp;try with_reducible rfl)
      try simp only [Act.put,List.setIfInBounds_toArray,List.set_cons_zero,List.set_cons_succ]
      clear HS
      refine Fst.one (late:=fun k=>[10].contains k) (i:=8) (by kernel_rfl) rfl (fun K hK=>?_)
      go_simp
      (try go_wp2_with fail)
      obtain ⟨W6,hW6⟩:∃ V,V = wc1.alloc (.cells #[.int .i64 2,.string (b1 ++ r.2)] 70):=⟨_,rfl⟩
      have HP6:Hid (PB 70 52 A n0 ox ls (.slice va vm vc) w W6):=by show PB 70 52 A n0 ox ls (.slice va vm vc) w W6;rw [hW6];exact HP1.out.al _
      have HE6:Hid (W6.heap[B]? = some (.cells #[.int .i64 r.1,.string r.2] 67)):=by show _ = _;rw [hW6];exact (Below.heap_alloc _ _ _ (Array.getElem?_eq_some_iff.1 HE1.out).1).trans HE1.out
      have HX6:Hid (W6.heap[wc1.heap.size]? = some (.cells #[.int .i64 2,.string (b1 ++ r.2)] 70)):=by show _ = _;rw [hW6];exact heap_alloc_new _ _
      rw [← hW6]
      have HS:(fun V:World=>V.cell? ⟨B,0,none⟩ = some (.int .i64 r.1)/\V.cell? ⟨B,1,none⟩ = some (.string r.2)) W6:=⟨cell_at HE6.out 0,cell_at HE6.out 1⟩
      refine hK _ _ HS ?_
      clear hK K hW6
      try simp only [Act.put,List.setIfInBounds_toArray,List.set_cons_zero,List.set_cons_succ]
      clear HS
      refine Fst.one (late:=fun k=>[10].contains k) (i:=9) (by kernel_rfl) rfl (fun K hK=>?_)
      obtain ⟨i0,hi,hz0,hz1,hz2⟩:=Es.info_parts infoT
      refine step_row rfl _ _ _ rfl Sh.EF (fun b=>n0<=b) n0 70 i0 (.agg #[.int .i64 0,.string ⟨#[]⟩]) 24 Tryz.underlying71 hi hz0 hz1 hz2 rfl (.slice va vm vc) ls rfl HP6.out.row _ [(2,b1 ++ r.2)] rfl (row_one (f:=(2,b1 ++ r.2)) HX6.out (by have:=HP1.out.sz;omega)).at (by have:=HLEN.out;unfold maxLen;simp;omega) (by have:=HLEN.out;simp;omega) HP6.out.sz ?_
      intro v9 w9 g1 g2 _
      have HP9:Hid (PB 70 52 A n0 ox (ls ++ [Sh.runF r]) v9 w w9):=by have h:=HP6.out.app (by decide) g1 g2;rw [HEQ.out] at h;exact h
      have HS:(fun V:World=>V.cell? ⟨B,0,none⟩ = some (.int .i64 r.1)/\V.cell? ⟨B,1,none⟩ = some (.string r.2)) w9:=⟨cell_at (PB.other HE6.out HP6.out.row (by decide) g2) 0,cell_at (PB.other HE6.out HP6.out.row (by decide) g2) 1⟩
      refine hK _ _ HS ?_
      clear hK K g1 g2
      try simp only [Act.put,List.setIfInBounds_toArray,List.set_cons_zero,List.set_cons_succ]
      refine Fst.rest (by kernel_rfl) ?_
      clear HS
      refine wpAny_ready (rs:=[10]) (by kernel_rfl) (by simp) ?_
      refine AllReady.cons rfl (fun K hK=>?_) AllReady.nil
      go_simp
      (try go_wp2_with fail)
      first | (refine hK _ _ ?_;clear hK K) | skip
      try simp only [Act.put,List.setIfInBounds_toArray,List.set_cons_zero,List.set_cons_succ]
      refine wpAny_done (by kernel_rfl) ?_ _
      clear HP4 HE4 HP1 HE1 HP6 HE6 HX6 HC1 hq1
      obtain ⟨v9a,v9m,v9c,rfl⟩:=HP9.out.slice
      go_wp2
      go_roundw
      case rel=>exact ⟨k + 1,_,_,by omega,by go_num,rfl,HP9,by show _ = _;rw [HLS.out,Sh.map_take _ HRK.out,List.append_assoc]⟩
      case measure=>simp [intOf];omega
    · obtain rfl : k = na := by omega
      have HOE:Hid (wr.heap[A]? = some (.cells #[.int .i64 x.gen,.int .i64 x.kind,.int .i64 x.links,.int .i64 x.size,.int .i64 x.stamp,.slice ra k rc,.slice ea nb ec,.int .i64 x.next] 52)):=by have h:=HP.out.box;rw [HOX.out] at h;exact h
      have c6:wr.cell? ⟨A,6,none⟩ = some (.slice ea nb ec):=cell_at HOE.out 6
      have HLS2:Hid (ls = (1,Sh.head x) :: x.runs.map Sh.runF):=by show _ = _;rw [HLS.out,List.take_of_length_le (by rw [HNA.out];exact Nat.le_refl _)];rfl
      have HL2:Hid (ls.length<=30001):=by
        show ls.length<=30001
        rw [HLS2.out,List.length_cons,List.length_map,HNA.out]
        omega
      clear HLS
      go_wp2_with fail
      clear c6 HOE
      go_loopw [5,50] (fun g i wr=>∃ (j:Nat) (v:Value) (ms:List Sh.F),j<=nb/\i = .int .i64 j/\g = v/\Hid (PB 70 52 A n0 ox ms v w wr)/\Hid (ms = ls ++ (x.ents.take j).map Sh.entF)) (fun _ i _=>nb - (intOf i).toNat)
      case atStart=>exact ⟨0,_,_,Nat.zero_le _,rfl,rfl,HP,by show _ = _;simp⟩
      case round =>
        obtain ⟨j,v,ms,hj,rfl,rfl,HQ,HMS⟩:=hrel
        obtain ⟨va,vm,vc,rfl⟩:=HQ.out.slice
        by_cases hjl:j < nb
        · obtain ⟨y, hy⟩ : ∃ r, x.ents[j]? = some r := ⟨_, List.getElem?_eq_getElem (by rw [HNB.out]; exact hjl)⟩
          have HYK:Hid (x.ents[j]? = some y):=hy
          obtain ⟨b0,off,rfl,hb0,c0',c1',c2',c3'⟩:=HEX.out j y hy
          have c0:wr.cell? ⟨b0,off + j * 4,none⟩ = some (.string y.1):=(HQ.out.bl.cell (p:=⟨b0,off + j * 4,none⟩) (by rw [HN0.out];exact hb0)).trans c0'
          have c1:wr.cell? ⟨b0,off + j * 4 + 1,none⟩ = some (.int .i64 y.2.1):=(HQ.out.bl.cell (p:=⟨b0,off + j * 4 + 1,none⟩) (by rw [HN0.out];exact hb0)).trans c1'
          have c2:wr.cell? ⟨b0,off + j * 4 + 2,none⟩ = some (.int .i64 y.2.2.1):=(HQ.out.bl.cell (p:=⟨b0,off + j * 4 + 2,none⟩) (by rw [HN0.out];exact hb0)).trans c2'
          have c3:wr.cell? ⟨b0,off + j * 4 + 3,none⟩ = some (.int .i64 y.2.2.2):=(HQ.out.bl.cell (p:=⟨b0,off + j * 4 + 3,none⟩) (by rw [HN0.out];exact hb0)).trans c3'
          obtain ⟨e1,e2,e3⟩:=HX.out.ents y (List.mem_of_getElem? hy)
          have HLEN:Hid (ms.length<=60001):=by
            show ms.length<=60001
            rw [HMS.out,List.length_append,List.length_map,List.length_take]
            have:=HL2.out
            omega
          obtain ⟨b1,hb1⟩:∃ b,Sh.nb y.2.1 6 = b:=⟨_,rfl⟩
          obtain ⟨b2,hb2⟩:∃ b,Ks.Ak.hbytes y.2.2.1 y.2.2.2 = b:=⟨_,rfl⟩
          have HB1:Hid (Sh.nb y.2.1 6 = b1/\Ks.Ak.hbytes y.2.2.1 y.2.2.2 = b2):=⟨hb1,hb2⟩
          have hz1:b1.size = 6:=by rw [← hb1];exact (Sh.le6 (n:=y.2.1) ⟨by omega,e1.2⟩).1
          have hz2:b2.size = 7:=by rw [← hb2];exact Sh.hb_size e2
          have HC1:Hid (∀ V,Calls Tryz.prog 22 #[.int .i64 y.2.1,.int .i64 6] V fun e w'=>e = .returned (.string b1)/\Below V.heap.size V w'):=fun V=>by rw [← hb1];exact shnum_any (y.2.1) 6 V (by omega)
          have HC2:Hid (∀ V,Calls Tryz.prog 24 #[.agg #[.int .i64 y.2.2.1,.int .i64 y.2.2.2]] V fun e w'=>e = .returned (.string b2)/\Below V.heap.size V w'):=fun V=>by rw [← hb2];exact shhandle_any _ _ V (by have:=e2.1;omega) (by have:=e2.2;omega)
          have hq1:¬ 9223372036854775807 < b1.size + b2.size:=by omega
          have hq2:¬ 9223372036854775807 < b1.size + b2.size + y.1.size:=by omega
          have hq3:¬ 9223372036854775807 < (b1 ++ b2).size + y.1.size:=by rw [ByteArray.size_append];omega
          have HEQ:Hid ((3,b1 ++ b2 ++ y.1) = Sh.entF y):=by show _ = _;unfold Sh.entF;rw [HB1.out.1,HB1.out.2]
          obtain ⟨B,hB⟩:∃ n,n = wr.heap.size:=⟨_,rfl⟩
          obtain ⟨W4,hW4⟩:∃ V,V = wr.alloc (.cells #[.string y.1,.int .i64 y.2.1,.int .i64 y.2.2.1,.int .i64 y.2.2.2] 91):=⟨_,rfl⟩
          have HP4:Hid (PB 70 52 A n0 ox ms (.slice va vm vc) w W4):=by show PB 70 52 A n0 ox ms (.slice va vm vc) w W4;rw [hW4];exact HQ.out.al _
          have HE4:Hid (W4.heap[B]? = some (.cells #[.string y.1,.int .i64 y.2.1,.int .i64 y.2.2.1,.int .i64 y.2.2.2] 91)):=by show _ = _;rw [hW4,hB];exact heap_alloc_new _ _
          have hjl':(j:Int) < (nb:Int):=by omega
          clear hb0 c0' c1' c2' c3' hy e1 e2 e3 hb1 hb2 hz1 hz2 HQ
          go_wp2_with fail
          rw [← hW4,← hB]
          clear hW4 hB c0 c1 c2 c3
          refine wp_region_any (by kernel_rfl) ?_
          change wpAny _ _ _ _ _ _ _ (World.drew _)
          refine wpAny_take (i:=0) (v:=?vc0) rfl (by kernel_rfl) (by kernel_rfl) (by kernel_rfl) (fun _ _ _ h=>h) (Or.inl ⟨by rfl,?hc0⟩) ?rc0
          case hc0=>(intro w;go_simp;try with_reducible rfl)
          try simp only [Act.put,List.setIfInBounds_toArray,List.set_cons_zero,List.set_cons_succ]
          refine wpAny_take (i:=1) (v:=?vc1) rfl (by kernel_rfl) (by kernel_rfl) (by kernel_rfl) (fun _ _ _ h=>h) (Or.inl ⟨by rfl,?hc1⟩) ?rc1
          case hc1=>(intro w;go_simp;try with_reducible rfl)
          try simp only [Act.put,List.setIfInBounds_toArray,List.set_cons_zero,List.set_cons_succ]
          refine wpAny_take (i:=4) (v:=?vc4) rfl (by kernel_rfl) (by kernel_rfl) (by kernel_rfl) (fun _ _ _ h=>h) (Or.inl ⟨by rfl,?hc4⟩) ?rc4
          case hc4=>(intro w;go_simp;try with_reducible rfl)
          try simp only [Act.put,List.setIfInBounds_toArray,List.set_cons_zero,List.set_cons_succ]
          refine wpAny_take (i:=8) (v:=?vc8) rfl (by kernel_rfl) (by kernel_rfl) (by kernel_rfl) (fun _ _ _ h=>h) (Or.inl ⟨by rfl,?hc8⟩) ?rc8
          case hc8=>(intro w;go_simp;try with_reducible rfl)
          try simp only [Act.put,List.setIfInBounds_toArray,List.set_cons_zero,List.set_cons_succ]
          have HS:(fun V:World=>V.cell? ⟨B,0,none⟩ = some (.string y.1)/\V.cell? ⟨B,1,none⟩ = some (.int .i64 y.2.1)/\V.cell? ⟨B,2,none⟩ = some (.int .i64 y.2.2.1)/\V.cell? ⟨B,3,none⟩ = some (.int .i64 y.2.2.2)) W4.drew:=⟨cell_at HE4.out 0,cell_at HE4.out 1,cell_at HE4.out 2,cell_at HE4.out 3⟩
          refine Fst.any_of (late:=fun k=>[14].contains k) (S:=(fun V:World=>V.cell? ⟨B,0,none⟩ = some (.string y.1)/\V.cell? ⟨B,1,none⟩ = some (.int .i64 y.2.1)/\V.cell? ⟨B,2,none⟩ = some (.int .i64 y.2.2.1)/\V.cell? ⟨B,3,none⟩ = some (.int .i64 y.2.2.2))) _ _ _ _ ?_
          refine Fst.take (ls:=[14]) (i:=2) (v:=?vc2) rfl (by kernel_rfl) (by kernel_rfl) (by kernel_rfl) (by kernel_rfl) (by kernel_rfl) (fun _ _ _ h=>h) (Or.inl ⟨by rfl,?hc2⟩) HS ?rc2
          case hc2=>(rintro V ⟨s0,s1,s2,s3⟩;go_simp;try with_reducible rfl)
          try simp only [Act.put,List.setIfInBounds_toArray,List.set_cons_zero,List.set_cons_succ]
          refine Fst.take (ls:=[14]) (i:=5) (v:=?vc5) rfl (by kernel_rfl) (by kernel_rfl) (by kernel_rfl) (by kernel_rfl) (by kernel_rfl) (fun _ _ _ h=>h) (Or.inl ⟨by rfl,?hc5⟩) HS ?rc5
          case hc5=>(rintro V ⟨s0,s1,s2,s3⟩;go_simp;try with_reducible rfl)
          try simp only [Act.put,List.setIfInBounds_toArray,List.set_cons_zero,List.set_cons_succ]
          refine Fst.take (ls:=[14]) (i:=9) (v:=?vc9) rfl (by kernel_rfl) (by kernel_rfl) (by kernel_rfl) (by kernel_rfl) (by kernel_rfl) (fun _ _ _ h=>h) (Or.inl ⟨by rfl,?hc9⟩) HS ?rc9
          case hc9=>(rintro V ⟨s0,s1,s2,s3⟩;go_simp;try with_reducible rfl)
          try simp only [Act.put,List.setIfInBounds_toArray,List.set_cons_zero,List.set_cons_succ]
          clear HS
          refine Fst.one (late:=fun k=>[14].contains k) (i:=3) (by kernel_rfl) rfl (fun K hK=>?_)
          go_simp
          refine (HC1.out W4.drew).mono ?_
          rintro e wc1 ⟨rfl,hb⟩
          have HP1:Hid (PB 70 52 A n0 ox ms (.slice va vm vc) w wc1):=HP4.out.drew.up hb
          have HE1:Hid (wc1.heap[B]? = some (.cells #[.string y.1,.int .i64 y.2.1,.int .i64 y.2.2.1,.int .i64 y.2.2.2] 91)):=(hb.block _ (Array.getElem?_eq_some_iff.1 HE4.out).1).trans HE4.out
          clear hb
          (try go_wp2_with fail)
          have HS:(fun V:World=>V.cell? ⟨B,0,none⟩ = some (.string y.1)/\V.cell? ⟨B,1,none⟩ = some (.int .i64 y.2.1)/\V.cell? ⟨B,2,none⟩ = some (.int .i64 y.2.2.1)/\V.cell? ⟨B,3,none⟩ = some (.int .i64 y.2.2.2)) wc1:=⟨cell_at HE1.out 0,cell_at HE1.out 1,cell_at HE1.out 2,cell_at HE1.out 3⟩
          refine hK _ _ HS ?_
          clear hK K
          try simp only [Act.put,List.setIfInBounds_toArray,List.set_cons_zero,List.set_cons_succ]
          clear HS
          refine Fst.one (late:=fun k=>[14].contains k) (i:=6) (by kernel_rfl) rfl (fun K hK=>?_)
          go_simp
          refine (HC2.out wc1).mono ?_
          rintro e wc2 ⟨rfl,hb⟩
          have HP2:Hid (PB 70 52 A n0 ox ms (.slice va vm vc) w wc2):=HP1.out.up hb
          have HE2:Hid (wc2.heap[B]? = some (.cells #[.string y.1,.int .i64 y.2.1,.int .i64 y.2.2.1,.int .i64 y.2.2.2] 91)):=(hb.block _ (Array.getElem?_eq_some_iff.1 HE1.out).1).trans HE1.out
          clear hb
          (try go_wp2_with fail)
          have HS:(fun V:World=>V.cell? ⟨B,0,none⟩ = some (.string y.1)/\V.cell? ⟨B,1,none⟩ = some (.int .i64 y.2.1)/\V.cell? ⟨B,2,none⟩ = some (.int .i64 y.2.2.1)/\V.cell? ⟨B,3,none⟩ = some (.int .i64 y.2.2.2)) wc2:=⟨cell_at HE2.out 0,cell_at HE2.out 1,cell_at HE2.out 2,cell_at HE2.out 3⟩
          refine hK _ _ HS ?_
          clear hK K
          try simp only [Act.put,List.setIfInBounds_toArray,List.set_cons_zero,List.set_cons_succ]
          refine Fst.take (ls:=[14]) (i:=7) (v:=?vc7) rfl (by kernel_rfl) (by kernel_rfl) (by kernel_rfl) (by kernel_rfl) (by kernel_rfl) (fun _ _ _ h=>h) (Or.inl ⟨by rfl,?hc7⟩) HS ?rc7
          case hc7=>(rintro V ⟨s0,s1,s2,s3⟩;go_simp;try with_reducible rfl)
          try simp only [Act.put,List.setIfInBounds_toArray,List.set_cons_zero,List.set_cons_succ]
          refine Fst.take (ls:=[14]) (i:=10) (v:=?vc10) rfl (by kernel_rfl) (by kernel_rfl) (by kernel_rfl) (by kernel_rfl) (by kernel_rfl) (fun _ _ _ h=>h) (Or.inl ⟨by rfl,?hc10⟩) HS ?rc10
          case hc10=>(rintro V ⟨s0,s1,s2,s3⟩;go_simp;try with_reducible rfl)
          try simp only [Act.put,List.setIfInBounds_toArray,List.set_cons_zero,List.set_cons_succ]
          refine Fst.take (ls:=[14]) (i:=11) (v:=?vc11) rfl (by kernel_rfl) (by kernel_rfl) (by kernel_rfl) (by kernel_rfl) (by kernel_rfl) (fun _ _ _ h=>h) (Or.inl ⟨by rfl,?hc11⟩) HS ?rc11
          case hc11=>(rintro V ⟨s0,s1,s2,s3⟩;go_simp;try with_reducible rfl)
          try simp only [Act.put,List.setIfInBounds_toArray,List.set_cons_zero,List.set_cons_succ]
          clear HS
          refine Fst.one (late:=fun k=>[14].contains k) (i:=12) (by kernel_rfl) rfl (fun K hK=>?_)
          go_simp
          (try go_wp2_with fail)
          obtain ⟨W6,hW6⟩:∃ V,V = wc2.alloc (.cells #[.int .i64 3,.string (b1 ++ b2 ++ y.1)] 70):=⟨_,rfl⟩
          have HP6:Hid (PB 70 52 A n0 ox ms (.slice va vm vc) w W6):=by show PB 70 52 A n0 ox ms (.slice va vm vc) w W6;rw [hW6];exact HP2.out.al _
          have HE6:Hid (W6.heap[B]? = some (.cells #[.string y.1,.int .i64 y.2.1,.int .i64 y.2.2.1,.int .i64 y.2.2.2] 91)):=by show _ = _;rw [hW6];exact (Below.heap_alloc _ _ _ (Array.getElem?_eq_some_iff.1 HE2.out).1).trans HE2.out
          have HX6:Hid (W6.heap[wc2.heap.size]? = some (.cells #[.int .i64 3,.string (b1 ++ b2 ++ y.1)] 70)):=by show _ = _;rw [hW6];exact heap_alloc_new _ _
          rw [← hW6]
          have HS:(fun V:World=>V.cell? ⟨B,0,none⟩ = some (.string y.1)/\V.cell? ⟨B,1,none⟩ = some (.int .i64 y.2.1)/\V.cell? ⟨B,2,none⟩ = some (.int .i64 y.2.2.1)/\V.cell? ⟨B,3,none⟩ = some (.int .i64 y.2.2.2)) W6:=⟨cell_at HE6.out 0,cell_at HE6.out 1,cell_at HE6.out 2,cell_at HE6.out 3⟩
          refine hK _ _ HS ?_
          clear hK K hW6
          try simp only [Act.put,List.setIfInBounds_toArray,List.set_cons_zero,List.set_cons_succ]
          clear HS
          refine Fst.one (late:=fun k=>[14].contains k) (i:=13) (by kernel_rfl) rfl (fun K hK=>?_)
          obtain ⟨i0,hi,hz0,hz1,hz2⟩:=Es.info_parts infoT
          refine step_row rfl _ _ _ rfl Sh.EF (fun b=>n0<=b) n0 70 i0 (.agg #[.int .i64 0,.string ⟨#[]⟩]) 24 Tryz.underlying71 hi hz0 hz1 hz2 rfl (.slice va vm vc) ms rfl HP6.out.row _ [(3,b1 ++ b2 ++ y.1)] rfl (row_one (f:=(3,b1 ++ b2 ++ y.1)) HX6.out (by have:=HP2.out.sz;omega)).at (by have:=HLEN.out;unfold maxLen;simp;omega) (by have:=HLEN.out;simp;omega) HP6.out.sz ?_
          intro v9 w9 g1 g2 _
          have HP9:Hid (PB 70 52 A n0 ox (ms ++ [Sh.entF y]) v9 w w9):=by have h:=HP6.out.app (by decide) g1 g2;rw [HEQ.out] at h;exact h
          have HS:(fun V:World=>V.cell? ⟨B,0,none⟩ = some (.string y.1)/\V.cell? ⟨B,1,none⟩ = some (.int .i64 y.2.1)/\V.cell? ⟨B,2,none⟩ = some (.int .i64 y.2.2.1)/\V.cell? ⟨B,3,none⟩ = some (.int .i64 y.2.2.2)) w9:=⟨cell_at (PB.other HE6.out HP6.out.row (by decide) g2) 0,cell_at (PB.other HE6.out HP6.out.row (by decide) g2) 1,cell_at (PB.other HE6.out HP6.out.row (by decide) g2) 2,cell_at (PB.other HE6.out HP6.out.row (by decide) g2) 3⟩
          refine hK _ _ HS ?_
          clear hK K g1 g2
          try simp only [Act.put,List.setIfInBounds_toArray,List.set_cons_zero,List.set_cons_succ]
          refine Fst.rest (by kernel_rfl) ?_
          clear HS
          refine wpAny_ready (rs:=[14]) (by kernel_rfl) (by simp) ?_
          refine AllReady.cons rfl (fun K hK=>?_) AllReady.nil
          go_simp
          (try go_wp2_with fail)
          first | (refine hK _ _ ?_;clear hK K) | skip
          try simp only [Act.put,List.setIfInBounds_toArray,List.set_cons_zero,List.set_cons_succ]
          refine wpAny_done (by kernel_rfl) ?_ _
          clear HP4 HE4 HP1 HE1 HP2 HE2 HP6 HE6 HX6 HC1 HC2 hq1 hq2 hq3
          obtain ⟨v9a,v9m,v9c,rfl⟩:=HP9.out.slice
          go_wp2
          go_roundw
          case rel=>exact ⟨j + 1,_,_,by omega,by go_num,rfl,HP9,by show _ = _;rw [HMS.out,Sh.map_take _ HYK.out,List.append_assoc]⟩
          case measure=>simp [intOf];omega
        · obtain rfl : j = nb := by omega
          have HFI:Hid (ms = Sh.fI x):=by
            show ms = Sh.fI x
            rw [HMS.out,HLS2.out,List.take_of_length_le (by rw [HNB.out];exact Nat.le_refl _)]
            rfl
          have HEN:Hid ((Ks.Pl.encs ms).length<=1099511627776):=by
            show (Ks.Pl.encs ms).length<=_
            rw [HFI.out]
            exact Nat.le_trans (Sh.fI_le HX.out HL.out.1 HL.out.2) (by decide)
          have HFL:Hid (Ks.FieldsAt wr.heap.size wr (.slice va vm vc) ms):=row_fields HQ.out.row
          have HBL:Hid (Below w.heap.size w wr):=by have h:=HQ.out.bl;rw [HN0.out] at h;exact h
          have HOK:Hid (Ks.Pl.packErr 1 ms = 0):=by show _ = _;rw [HFI.out];exact Sh.fI_ok HX.out
          go_wp2_with fail
          refine (Ks.pack_any _ ms _ HFL.out HEN.out).mono ?_
          rintro e w9 ⟨rfl,hb⟩
          rw [HOK.out,HFI.out]
          have HB9:Hid (Below w.heap.size w w9):=HBL.out.trans (hb.mono HBL.out.size)
          clear hb
          go_wp2
          go_ret
          exact ⟨rfl,HB9.out⟩
end Go.Proofs.YtggoccfddnpelaaGreat
