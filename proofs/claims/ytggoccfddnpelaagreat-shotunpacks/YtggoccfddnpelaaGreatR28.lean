/- ZRd, ZUs, ZNum, ZPh, ZPb, as one. -/
import Derived.Test.YtggoccfddnpelaaGreatR27
namespace Go.Proofs.YtggoccfddnpelaaGreat
open Go.ChangeShapes Go.WideShapes Go.ChangeAt Go.RowKit Go.Deep It
set_option maxRecDepth 100000
theorem Sh.stS_len (l:List Sh.F):∀ x:Sh.Sta,(l.foldl Sh.stS x).L.length<=x.L.length + l.length/\(l.foldl Sh.stS x).O.length<=x.O.length + l.length/\(l.foldl Sh.stS x).Z.length<=x.Z.length + l.length:=by
  induction l with
  | nil=>intro x;exact ⟨Nat.le_refl _,Nat.le_refl _,Nat.le_refl _⟩
  | cons f l ih =>
    intro x
    have h:=ih (Sh.stS x f)
    have h1:(Sh.stS x f).L.length<=x.L.length + 1/\(Sh.stS x f).O.length<=x.O.length + 1/\(Sh.stS x f).Z.length<=x.Z.length + 1:=by
      unfold Sh.stS
      repeat' split
      all_goals exact ⟨by simp,by simp,by simp⟩
    rw [List.foldl_cons,List.length_cons]
    omega
theorem at_ino {w:World} {B:Nat} {r:Rw} (h:w.heap[B]? = some (BI r.i (.slice r.rp r.rn r.rc) (.slice r.ep r.en r.ec))):AtW EI w (.slice (some ⟨B,0,none⟩) 1 1) [r]:=by
  refine .inr ⟨B,0,1,rfl,trivial,(Array.getElem?_eq_some_iff.1 h).1,by simp,by simp,by unfold maxLen;omega,fun j u hj=>?_⟩
  have c:=cell_at h j
  rw [Nat.zero_add,c]
  have e:EI.flat [r] = [.int .i64 r.i.gen,.int .i64 r.i.kind,.int .i64 r.i.links,.int .i64 r.i.size,.int .i64 r.i.stamp,.slice r.rp r.rn r.rc,.slice r.ep r.en r.ec,.int .i64 r.i.next]:=by simp [Enc.flat,EI]
  rw [e] at hj
  simpa using hj
theorem at_opn {w:World} {B:Nat} {r:Os.Opn} (h:w.heap[B]? = some (.cells #[.int .i64 r.1,.int .i64 r.2.1,.int .i64 r.2.2.1,.int .i64 r.2.2.2] 57)):AtW Os.EO w (.slice (some ⟨B,0,none⟩) 1 1) [r]:=by
  refine .inr ⟨B,0,1,rfl,trivial,(Array.getElem?_eq_some_iff.1 h).1,by simp,by simp,by unfold maxLen;omega,fun j u hj=>?_⟩
  have c:=cell_at h j
  rw [Nat.zero_add,c]
  have e:Os.EO.flat [r] = [.int .i64 r.1,.int .i64 r.2.1,.int .i64 r.2.2.1,.int .i64 r.2.2.2]:=by simp [Enc.flat,Os.EO]
  rw [e] at hj
  simpa using hj
theorem at_sea {w:World} {B:Nat} {r:Es.Sea} (h:w.heap[B]? = some (.cells #[.int .i64 r.1,.int .i64 r.2.1,.string r.2.2] 60)):AtW Es.ES w (.slice (some ⟨B,0,none⟩) 1 1) [r]:=by
  refine .inr ⟨B,0,1,rfl,trivial,(Array.getElem?_eq_some_iff.1 h).1,by simp,by simp,by unfold maxLen;omega,fun j u hj=>?_⟩
  have c:=cell_at h j
  rw [Nat.zero_add,c]
  have e:Es.ES.flat [r] = [.int .i64 r.1,.int .i64 r.2.1,.string r.2.2]:=by simp [Enc.flat,Es.ES]
  rw [e] at hj
  simpa using hj
set_option linter.unusedSimpArgs false in
set_option maxHeartbeats 8000000 in
theorem read_any (s : ByteArray) (w : World) (hs : s.size ≤ 1048576) :
    Calls Tryz.prog 12 #[.string s] w fun e w'=>∃ L vi vo vz,e = .returned (.agg #[vi,vo,vz,.int .i64 (Sh.rdS s).dn])/\pl L = (Sh.rdS s).L/\Row EI w' w.heap.size 52 vi L/\(∀ r∈L,Row ER w' w.heap.size 67 (.slice r.rp r.rn r.rc) r.i.runs/\Row EE w' w.heap.size 91 (.slice r.ep r.en r.ec) r.i.ents)/\Row Os.EO w' w.heap.size 57 vo (Sh.rdS s).O/\Row Es.ES w' w.heap.size 60 vz (Sh.rdS s).Z/\Below w.heap.size w w':=by
  obtain ⟨A2,hA2⟩:∃ n,n = w.heap.size:=⟨_,rfl⟩
  obtain ⟨W,hW⟩:∃ W,W = w.alloc BS0:=⟨_,rfl⟩
  have HT0:Hid (W.heap[A2]? = some BS0):=by show _ = _;rw [hW,hA2];exact heap_alloc_new _ _
  have HB0:Hid (Below w.heap.size w W):=by show Below _ _ _;rw [hW];exact (Below.refl _ _).alloc (Nat.le_refl _) _
  have HW:Hid (W = w.alloc BS0/\A2 = w.heap.size):=⟨hW,hA2⟩
  have HZ:Hid (s.size<=1048576):=hs
  clear hs hW hA2
  go_enter Tryz.func12,Tryz.ntmps12
  go_wp2_with fail
  rw [← HW.out.1,← HW.out.2]
  refine (Ks.unpack_any s _ HZ.out).mono ?_
  rintro e w2 ⟨r,rfl,hown,hb⟩
  have HT2:Hid (w2.heap[A2]? = some BS0):=(hb.block _ (Array.getElem?_eq_some_iff.1 HT0.out).1).trans HT0.out
  have HB2:Hid (Below w.heap.size w w2):=HB0.out.trans (hb.mono HB0.out.size)
  obtain ⟨l,hl⟩:∃ l,Ks.Pl.unpOut s.data.toList = l:=⟨_,rfl⟩
  have HL:Hid (Ks.Pl.unpOut s.data.toList = l):=hl
  have HLS:Hid (∀ f∈l,f.2.size<=1048576):=by
    intro f hf
    rw [← hl] at hf
    exact Nat.le_trans (Ks.Rs.Ak.parse_small _ _ _ f hf) (by decide)
  rw [hl] at hown
  obtain ⟨ao,cap,rfl,hm,hx⟩:=flds (Ks.FieldsAt.of_own hown)
  have hmm:l.length<=1048576:=by
    have:=Ks.Rs.Ak.parse_len s.data.toList.length 1 s.data.toList
    rw [← hl]
    have e:s.data.toList.length = s.size:=by simp
    unfold Ks.Pl.unpOut
    have:=HZ.out
    omega
  obtain ⟨n,hn⟩:∃ n,l.length = n:=⟨_,rfl⟩
  rw [hn] at hmm ⊢
  have HN:Hid (l.length = n):=hn
  have HX:Hid (∀ i x,l[i]? = some x->∃ b off,ao = some ⟨b,off,none⟩/\b < w2.heap.size/\w2.cell? ⟨b,off + i * 2,none⟩ = some (.int .i64 x.1)/\w2.cell? ⟨b,off + i * 2 + 1,none⟩ = some (.string x.2)):=hx
  clear hown hb hl hn hx hm HT0 HB0
  go_wp2_with fail
  obtain ⟨A,hA⟩:∃ n,n = w2.heap.size:=⟨_,rfl⟩
  obtain ⟨W3,hW3⟩:∃ V,V = w2.alloc BS0:=⟨_,rfl⟩
  have HR:Hid (RS A A Sh.st0 [] (.slice none 0 0) (.slice none 0 0) (.slice none 0 0) w2 W3):=by
    show RS _ _ _ _ _ _ _ _ _
    rw [hW3,hA]
    exact ⟨heap_alloc_new w2 _,rfl,Row.nil _ _ _ _,(fun r hr=>by cases hr),Row.nil _ _ _ _,Row.nil _ _ _ _,Nat.le_refl _,(Below.refl _ _).alloc (Nat.le_refl _) _,Nat.le_refl _⟩
  rw [← hW3,← hA]
  have HA:Hid (A = w2.heap.size):=hA
  clear hW3 hA
  go_loopw [16] (fun i wr=>∃ (k:Nat) (x:Sh.Sta) (L:List Rw) (vi vo vz:Value),k<=n/\i = .int .i64 k/\Hid (RS A A x L vi vo vz w2 wr)/\Hid (x = (l.take k).foldl Sh.stS Sh.st0)) (fun i _=>n - (intOf i).toNat)
  case atStart=>exact ⟨0,Sh.st0,[],_,_,_,Nat.zero_le _,rfl,HR,by rw [List.take_zero];rfl⟩
  case round =>
    obtain ⟨k,x,L,vi,vo,vz,hk,rfl,HI,HE⟩:=hrel
    by_cases hlt:k < n
    · obtain ⟨⟨tag, v⟩, hf⟩ : ∃ f, l[k]? = some f := ⟨_, List.getElem?_eq_getElem (by rw [HN.out]; exact hlt)⟩
      obtain ⟨b0,off,rfl,hb0,c0',c1'⟩:=HX.out k _ hf
      have hbA:b0 < A:=by rw [HA.out];exact hb0
      have c0:wr.cell? ⟨b0,off + k * 2,none⟩ = some (.int .i64 tag):=(HI.out.bl.cell (p:=⟨b0,off + k * 2,none⟩) hbA).trans c0'
      have c1:wr.cell? ⟨b0,off + k * 2 + 1,none⟩ = some (.string v):=(HI.out.bl.cell (p:=⟨b0,off + k * 2 + 1,none⟩) hbA).trans c1'
      have HV:Hid (v.size<=1048576):=HLS.out _ (List.mem_of_getElem? hf)
      have HV':Hid (v.size<=maxLen):=Nat.le_trans HV.out (by decide)
      have HNX:Hid ((l.take (k + 1)).foldl Sh.stS Sh.st0 = Sh.stS x (tag,v)):=by show _ = _;rw [Sh.fold_take _ _ _ hf,← HE.out]
      have HLN:Hid (x.L.length<=k/\x.O.length<=k/\x.Z.length<=k):=by
        show _/\_/\_
        have h1:=Sh.stS_len (l.take k) Sh.st0
        rw [← HE.out] at h1
        have h2:(l.take k).length<=k:=by rw [List.length_take];omega
        have h3:Sh.st0.L.length = 0/\Sh.st0.O.length = 0/\Sh.st0.Z.length = 0:=⟨rfl,rfl,rfl⟩
        omega
      obtain ⟨B,hB⟩:∃ n,n = wr.heap.size + 1:=⟨_,rfl⟩
      obtain ⟨W4,hW4⟩:∃ V,V = (wr.alloc (.cells #[.int .i64 tag,.string v] 70)).alloc (BT v):=⟨_,rfl⟩
      have HI4:Hid (RS A A x L vi vo vz w2 W4):=by show RS _ _ _ _ _ _ _ _ _;rw [hW4];exact (HI.out.up ((Below.refl _ _).alloc (Nat.le_refl _) _)).up ((Below.refl _ _).alloc (Nat.le_refl _) _)
      have HB4:Hid (W4.heap[B]? = some (BT v)):=by show _ = _;rw [hW4,hB];have h:=heap_alloc_new (wr.alloc (.cells #[.int .i64 tag,.string v] 70)) (BT v);simpa using h
      have hAB:A<=B:=by have:=HI.out.sz;omega
      have hlt':(k:Int) < (n:Int):=by omega
      clear c0' c1' hf hb0 HI
      by_cases e1:tag = 1
      · subst e1
        have t1:((1:Int) == 1) = true:=rfl
        go_wp2_with fail
        rw [← hW4,← hB]
        clear hW4 hB c0 c1
        refine (num_any' B 6 v _ HB4.out HV'.out).mono ?_
        rintro e w5 ⟨rfl,hx⟩
        have HI5:Hid (RS A A x L vi vo vz w2 w5):=HI4.out.tx HB4.out hAB hx
        have HI6:Hid (RS A A { x with dn:=Sh.nm 6 v } L vi vo vz w2 (w5.setCell ⟨A,3,none⟩ (.int .i64 (Sh.nm 6 v)))):=HI5.out.done _
        have f0:=fr_at HI5.out.box
        have q0:=cell_at HI5.out.box 3
        simp at q0
        clear hx HI4 HB4
        go_wp2
        go_roundw
        case rel=>exact ⟨k + 1,_,L,vi,vo,vz,by omega,by go_num,HI6,by show _ = _;rw [HNX.out];unfold Sh.stS;simp⟩
        case measure=>simp [intOf];omega
      · have t1 : (tag == 1) = false := by simp [e1]
        by_cases e2:tag = 2
        · subst e2
          have t2:((2:Int) == 2) = true:=rfl
          have f9:=fr_at HI4.out.box
          have q9:=cell_at HI4.out.box 0
          simp at q9
          go_wp2_with fail
          rw [← hW4,← hB]
          clear hW4 hB c0 c1 f9 q9
          refine wp_region_any (by kernel_rfl) ?_
          change wpAny _ _ _ _ _ _ _ (World.drew _)
          refine wpAny_take (i:=0) (v:=?vi1) rfl (by kernel_rfl) (by kernel_rfl) (by kernel_rfl) (fun _ _ _ h=>h) (Or.inl ⟨by rfl,?hi1⟩) ?ri1
          case hi1=>(intro w;go_simp;try with_reducible rfl)
          try simp only [Act.put,List.setIfInBounds_toArray,List.set_cons_zero,List.set_cons_succ]
          refine wpAny_take (i:=2) (v:=?vi2) rfl (by kernel_rfl) (by kernel_rfl) (by kernel_rfl) (fun _ _ _ h=>h) (Or.inl ⟨by rfl,?hi2⟩) ?ri2
          case hi2=>(intro w;go_simp;try with_reducible rfl)
          try simp only [Act.put,List.setIfInBounds_toArray,List.set_cons_zero,List.set_cons_succ]
          have HS:(fun V:World=>V.cell? ⟨A,0,none⟩ = some vi) W4.drew:=by have h:=cell_at HI4.out.drew.box 0;simpa using h
          refine Fst.any_of (late:=fun k=>[7].contains k) (S:=fun V:World=>V.cell? ⟨A,0,none⟩ = some vi) _ _ _ _ ?_
          refine Fst.take (ls:=[7]) (i:=1) (v:=?vi3) rfl (by kernel_rfl) (by kernel_rfl) (by kernel_rfl) (by kernel_rfl) (by kernel_rfl) (fun _ _ _ h=>h) (Or.inl ⟨by rfl,?hi3⟩) HS ?ri3
          case hi3=>(intro V s5;go_simp;try with_reducible rfl)
          try simp only [Act.put,List.setIfInBounds_toArray,List.set_cons_zero,List.set_cons_succ]
          clear HS
          refine Fst.one (late:=fun k=>[7].contains k) (i:=3) (by kernel_rfl) rfl (fun K hK=>?_)
          go_simp
          refine (vinode_any B v W4.drew HB4.out HV.out).mono ?_
          rintro e w5 ⟨rv,ev,rfl,hr5,he5,t5,hx⟩
          obtain ⟨ra,rn,rc,rfl⟩:∃ a m c,rv = .slice a m c:=by rcases hr5 with ⟨rfl,-⟩ | ⟨g,cap,cur,rfl,-⟩ <;> exact ⟨_,_,_,rfl⟩
          obtain ⟨ea,en,ec,rfl⟩:∃ a m c,ev = .slice a m c:=by rcases he5 with ⟨rfl,-⟩ | ⟨g,cap,cur,rfl,-⟩ <;> exact ⟨_,_,_,rfl⟩
          have HR5:Hid (Row ER w5 A 67 (.slice ra rn rc) (Sh.rdI v).runs):=hr5.low HI4.out.sz
          have HE5:Hid (Row EE w5 A 91 (.slice ea en ec) (Sh.rdI v).ents):=he5.low HI4.out.sz
          clear hr5 he5
          have HI5:Hid (RS A A x L vi vo vz w2 w5):=HI4.out.drew.tx HB4.out hAB hx
          clear hx HI4 HB4
          (try go_wp2_with fail)
          refine hK _ _ (by have h:=cell_at HI5.out.box 0;simpa using h) ?_
          clear hK K
          try simp only [Act.put,List.setIfInBounds_toArray,List.set_cons_zero,List.set_cons_succ]
          refine Fst.one (late:=fun k=>[7].contains k) (i:=4) (by kernel_rfl) rfl (fun K hK=>?_)
          go_simp
          (try go_wp2_with fail)
          obtain ⟨W6,hW6⟩:∃ V,V = w5.alloc (.cells #[.int .i64 (Sh.rdI v).gen,.int .i64 (Sh.rdI v).kind,.int .i64 (Sh.rdI v).links,.int .i64 (Sh.rdI v).size,.int .i64 (Sh.rdI v).stamp,.slice ra rn rc,.slice ea en ec,.int .i64 (Sh.rdI v).next] 52):=⟨_,rfl⟩
          have HI6:Hid (RS A A x L vi vo vz w2 W6):=by show RS _ _ _ _ _ _ _ _ _;rw [hW6];exact HI5.out.up ((Below.refl _ _).alloc (Nat.le_refl _) _)
          have HX6:Hid (W6.heap[w5.heap.size]? = some (.cells #[.int .i64 (Sh.rdI v).gen,.int .i64 (Sh.rdI v).kind,.int .i64 (Sh.rdI v).links,.int .i64 (Sh.rdI v).size,.int .i64 (Sh.rdI v).stamp,.slice ra rn rc,.slice ea en ec,.int .i64 (Sh.rdI v).next] 52)):=by show _ = _;rw [hW6];exact heap_alloc_new _ _
          have HR6:Hid (Row ER W6 A 67 (.slice ra rn rc) (Sh.rdI v).runs):=by show Row _ _ _ _ _ _;rw [hW6];exact HR5.out.up ((Below.refl _ _).alloc (Nat.le_refl _) _)
          have HE6:Hid (Row EE W6 A 91 (.slice ea en ec) (Sh.rdI v).ents):=by show Row _ _ _ _ _ _;rw [hW6];exact HE5.out.up ((Below.refl _ _).alloc (Nat.le_refl _) _)
          have HLL:Hid (L.length<=k):=by
            show L.length<=k
            have h:=HLN.out.1
            rw [← HI6.out.eq] at h
            simpa [pl] using h
          rw [← hW6]
          refine hK _ _ (by have h:=cell_at HI6.out.box 0;simpa using h) ?_
          clear hK K hW6
          try simp only [Act.put,List.setIfInBounds_toArray,List.set_cons_zero,List.set_cons_succ]
          refine Fst.one (late:=fun k=>[7].contains k) (i:=5) (by kernel_rfl) rfl (fun K hK=>?_)
          obtain ⟨i0,hi,hz0,hz1,hz2⟩:=info_parts infoI
          refine step_row rfl _ _ _ rfl EI (fun _=>True) A 52 i0 (.agg #[.int .i64 0,.int .i64 0,.int .i64 0,.int .i64 0,.int .i64 0,.slice none 0 0,.slice none 0 0,.int .i64 0]) 96 Tryz.underlying23 hi hz0 hz1 hz2 rfl vi L rfl HI6.out.rowI _ [⟨Sh.rdI v,ra,rn,rc,ea,en,ec⟩] rfl (at_ino (r:=⟨Sh.rdI v,ra,rn,rc,ea,en,ec⟩) HX6.out) (by have:=HLL.out;unfold maxLen;simp;omega) (by have:=HLL.out;simp;omega) HI6.out.sz ?_
          intro v9 w9 g1 g2 _
          obtain ⟨a9,m9,c9,rfl⟩:∃ a m c,v9 = .slice a m c:=by rcases g1 with ⟨rfl,-⟩ | ⟨g,cap,cur,rfl,-⟩ <;> exact ⟨_,_,_,rfl⟩
          have HI7:=HI6.out.ino (r:=⟨Sh.rdI v,ra,rn,rc,ea,en,ec⟩) g1 g2 HR6.out HE6.out
          have HI8:Hid (w9.heap[A]? = some (BSt vi vo vz x.dn)):=HI7.2
          have HI9:Hid (RS A A { x with L:=x.L ++ [Sh.rdI v] } (L ++ [⟨Sh.rdI v,ra,rn,rc,ea,en,ec⟩]) (.slice a9 m9 c9) vo vz w2 (w9.setCell ⟨A,0,none⟩ (.slice a9 m9 c9))):=HI7.1
          clear HI7
          have HS:(fun V:World=>V.cell? ⟨A,0,none⟩ = some vi) w9:=by have h:=cell_at HI8.out 0;simpa using h
          refine hK _ _ HS ?_
          clear hK K HI6 HX6 HI5
          try simp only [Act.put,List.setIfInBounds_toArray,List.set_cons_zero,List.set_cons_succ]
          refine Fst.take (ls:=[7]) (i:=6) (v:=?vi6) rfl (by kernel_rfl) (by kernel_rfl) (by kernel_rfl) (by kernel_rfl) (by kernel_rfl) (fun _ _ _ h=>h) (Or.inl ⟨by rfl,?hi6⟩) HS ?ri6
          case hi6=>(intro V s5;go_simp;try with_reducible rfl)
          try simp only [Act.put,List.setIfInBounds_toArray,List.set_cons_zero,List.set_cons_succ]
          refine Fst.rest (by kernel_rfl) ?_
          have f8:=fr_at HI8.out
          have q8:=cell_at HI8.out 0
          simp at q8
          clear HS HI8
          refine wpAny_ready (rs:=[7]) (by kernel_rfl) (by simp) ?_
          refine AllReady.cons rfl (fun K hK=>?_) AllReady.nil
          go_simp
          (try go_wp2_with fail)
          first | (refine hK _ _ ?_;clear hK K) | skip
          try simp only [Act.put,List.setIfInBounds_toArray,List.set_cons_zero,List.set_cons_succ]
          refine wpAny_done (by kernel_rfl) ?_ _
          clear q8 f8
          go_wp2
          go_roundw
          case rel=>exact ⟨k + 1,_,L ++ [⟨Sh.rdI v,ra,rn,rc,ea,en,ec⟩],.slice a9 m9 c9,vo,vz,by omega,by go_num,HI9,by show _ = _;rw [HNX.out];unfold Sh.stS;simp⟩
          case measure=>simp [intOf];omega
        · have t2 : (tag == 2) = false := by simp [e2]
          by_cases e3:tag = 3
          · subst e3
            have t3:((3:Int) == 3) = true:=rfl
            have f9:=fr_at HI4.out.box
            have q9:=cell_at HI4.out.box 1
            simp at q9
            go_wp2_with fail
            rw [← hW4,← hB]
            clear hW4 hB c0 c1 f9 q9
            refine wp_region_any (by kernel_rfl) ?_
            change wpAny _ _ _ _ _ _ _ (World.drew _)
            refine wpAny_take (i:=0) (v:=?vo1) rfl (by kernel_rfl) (by kernel_rfl) (by kernel_rfl) (fun _ _ _ h=>h) (Or.inl ⟨by rfl,?ho1⟩) ?ro1
            case ho1=>(intro w;go_simp;try with_reducible rfl)
            try simp only [Act.put,List.setIfInBounds_toArray,List.set_cons_zero,List.set_cons_succ]
            refine wpAny_take (i:=2) (v:=?vo2) rfl (by kernel_rfl) (by kernel_rfl) (by kernel_rfl) (fun _ _ _ h=>h) (Or.inl ⟨by rfl,?ho2⟩) ?ro2
            case ho2=>(intro w;go_simp;try with_reducible rfl)
            try simp only [Act.put,List.setIfInBounds_toArray,List.set_cons_zero,List.set_cons_succ]
            have HS:(fun V:World=>V.cell? ⟨A,1,none⟩ = some vo) W4.drew:=by have h:=cell_at HI4.out.drew.box 1;simpa using h
            refine Fst.any_of (late:=fun k=>[7].contains k) (S:=fun V:World=>V.cell? ⟨A,1,none⟩ = some vo) _ _ _ _ ?_
            refine Fst.take (ls:=[7]) (i:=1) (v:=?vo3) rfl (by kernel_rfl) (by kernel_rfl) (by kernel_rfl) (by kernel_rfl) (by kernel_rfl) (fun _ _ _ h=>h) (Or.inl ⟨by rfl,?ho3⟩) HS ?ro3
            case ho3=>(intro V s5;go_simp;try with_reducible rfl)
            try simp only [Act.put,List.setIfInBounds_toArray,List.set_cons_zero,List.set_cons_succ]
            clear HS
            refine Fst.one (late:=fun k=>[7].contains k) (i:=3) (by kernel_rfl) rfl (fun K hK=>?_)
            go_simp
            refine (vopen_any B v W4.drew HB4.out HV'.out).mono ?_
            rintro e w5 ⟨rfl,t5,hx⟩
            have HI5:Hid (RS A A x L vi vo vz w2 w5):=HI4.out.drew.tx HB4.out hAB hx
            clear hx HI4 HB4
            (try go_wp2_with fail)
            refine hK _ _ (by have h:=cell_at HI5.out.box 1;simpa using h) ?_
            clear hK K
            try simp only [Act.put,List.setIfInBounds_toArray,List.set_cons_zero,List.set_cons_succ]
            refine Fst.one (late:=fun k=>[7].contains k) (i:=4) (by kernel_rfl) rfl (fun K hK=>?_)
            go_simp
            (try go_wp2_with fail)
            obtain ⟨W6,hW6⟩:∃ V,V = w5.alloc (.cells #[.int .i64 (Sh.rdO v).1,.int .i64 (Sh.rdO v).2.1,.int .i64 (Sh.rdO v).2.2.1,.int .i64 (Sh.rdO v).2.2.2] 57):=⟨_,rfl⟩
            have HI6:Hid (RS A A x L vi vo vz w2 W6):=by show RS _ _ _ _ _ _ _ _ _;rw [hW6];exact HI5.out.up ((Below.refl _ _).alloc (Nat.le_refl _) _)
            have HX6:Hid (W6.heap[w5.heap.size]? = some (.cells #[.int .i64 (Sh.rdO v).1,.int .i64 (Sh.rdO v).2.1,.int .i64 (Sh.rdO v).2.2.1,.int .i64 (Sh.rdO v).2.2.2] 57)):=by show _ = _;rw [hW6];exact heap_alloc_new _ _
            rw [← hW6]
            refine hK _ _ (by have h:=cell_at HI6.out.box 1;simpa using h) ?_
            clear hK K hW6
            try simp only [Act.put,List.setIfInBounds_toArray,List.set_cons_zero,List.set_cons_succ]
            refine Fst.one (late:=fun k=>[7].contains k) (i:=5) (by kernel_rfl) rfl (fun K hK=>?_)
            obtain ⟨i0,hi,hz0,hz1,hz2⟩:=info_parts Os.infoO
            refine step_row rfl _ _ _ rfl Os.EO (fun _=>True) A 57 i0 (.agg #[.int .i64 0,.int .i64 0,.int .i64 0,.int .i64 0]) 32 Tryz.underlying24 hi hz0 hz1 hz2 rfl vo x.O rfl HI6.out.rowO _ [Sh.rdO v] rfl (at_opn HX6.out) (by have:=HLN.out.2.1;unfold maxLen;simp;omega) (by have:=HLN.out.2.1;simp;omega) HI6.out.sz ?_
            intro v9 w9 g1 g2 _
            obtain ⟨a9,m9,c9,rfl⟩:∃ a m c,v9 = .slice a m c:=by rcases g1 with ⟨rfl,-⟩ | ⟨g,cap,cur,rfl,-⟩ <;> exact ⟨_,_,_,rfl⟩
            have HI7:=HI6.out.opn g1 g2
            have HI8:Hid (w9.heap[A]? = some (BSt vi vo vz x.dn)):=HI7.2
            have HI9:Hid (RS A A { x with O:=x.O ++ [Sh.rdO v] } L vi (.slice a9 m9 c9) vz w2 (w9.setCell ⟨A,1,none⟩ (.slice a9 m9 c9))):=HI7.1
            clear HI7
            have HS:(fun V:World=>V.cell? ⟨A,1,none⟩ = some vo) w9:=by have h:=cell_at HI8.out 1;simpa using h
            refine hK _ _ HS ?_
            clear hK K HI6 HX6 HI5
            try simp only [Act.put,List.setIfInBounds_toArray,List.set_cons_zero,List.set_cons_succ]
            refine Fst.take (ls:=[7]) (i:=6) (v:=?vo6) rfl (by kernel_rfl) (by kernel_rfl) (by kernel_rfl) (by kernel_rfl) (by kernel_rfl) (fun _ _ _ h=>h) (Or.inl ⟨by rfl,?ho6⟩) HS ?ro6
            case ho6=>(intro V s5;go_simp;try with_reducible rfl)
            try simp only [Act.put,List.setIfInBounds_toArray,List.set_cons_zero,List.set_cons_succ]
            refine Fst.rest (by kernel_rfl) ?_
            have f8:=fr_at HI8.out
            have q8:=cell_at HI8.out 1
            simp at q8
            clear HS HI8
            refine wpAny_ready (rs:=[7]) (by kernel_rfl) (by simp) ?_
            refine AllReady.cons rfl (fun K hK=>?_) AllReady.nil
            go_simp
            (try go_wp2_with fail)
            first | (refine hK _ _ ?_;clear hK K) | skip
            try simp only [Act.put,List.setIfInBounds_toArray,List.set_cons_zero,List.set_cons_succ]
            refine wpAny_done (by kernel_rfl) ?_ _
            clear q8 f8
            go_wp2
            go_roundw
            case rel=>exact ⟨k + 1,_,L,vi,.slice a9 m9 c9,vz,by omega,by go_num,HI9,by show _ = _;rw [HNX.out];unfold Sh.stS;simp⟩
            case measure=>simp [intOf];omega
          · have t3 : (tag == 3) = false := by simp [e3]
            by_cases e4:tag = 4
            · subst e4
              have t4:((4:Int) == 4) = true:=rfl
              have f9:=fr_at HI4.out.box
              have q9:=cell_at HI4.out.box 2
              simp at q9
              go_wp2_with fail
              rw [← hW4,← hB]
              clear hW4 hB c0 c1 f9 q9
              refine wp_region_any (by kernel_rfl) ?_
              change wpAny _ _ _ _ _ _ _ (World.drew _)
              refine wpAny_take (i:=0) (v:=?vz1) rfl (by kernel_rfl) (by kernel_rfl) (by kernel_rfl) (fun _ _ _ h=>h) (Or.inl ⟨by rfl,?hz1⟩) ?rz1
              case hz1=>(intro w;go_simp;try with_reducible rfl)
              try simp only [Act.put,List.setIfInBounds_toArray,List.set_cons_zero,List.set_cons_succ]
              refine wpAny_take (i:=2) (v:=?vz2) rfl (by kernel_rfl) (by kernel_rfl) (by kernel_rfl) (fun _ _ _ h=>h) (Or.inl ⟨by rfl,?hz2⟩) ?rz2
              case hz2=>(intro w;go_simp;try with_reducible rfl)
              try simp only [Act.put,List.setIfInBounds_toArray,List.set_cons_zero,List.set_cons_succ]
              have HS:(fun V:World=>V.cell? ⟨A,2,none⟩ = some vz) W4.drew:=by have h:=cell_at HI4.out.drew.box 2;simpa using h
              refine Fst.any_of (late:=fun k=>[7].contains k) (S:=fun V:World=>V.cell? ⟨A,2,none⟩ = some vz) _ _ _ _ ?_
              refine Fst.take (ls:=[7]) (i:=1) (v:=?vz3) rfl (by kernel_rfl) (by kernel_rfl) (by kernel_rfl) (by kernel_rfl) (by kernel_rfl) (fun _ _ _ h=>h) (Or.inl ⟨by rfl,?hz3⟩) HS ?rz3
              case hz3=>(intro V s5;go_simp;try with_reducible rfl)
              try simp only [Act.put,List.setIfInBounds_toArray,List.set_cons_zero,List.set_cons_succ]
              clear HS
              refine Fst.one (late:=fun k=>[7].contains k) (i:=3) (by kernel_rfl) rfl (fun K hK=>?_)
              go_simp
              refine (vseat_any B v W4.drew HB4.out HV'.out).mono ?_
              rintro e w5 ⟨rfl,t5,hx⟩
              have HI5:Hid (RS A A x L vi vo vz w2 w5):=HI4.out.drew.tx HB4.out hAB hx
              clear hx HI4 HB4
              (try go_wp2_with fail)
              refine hK _ _ (by have h:=cell_at HI5.out.box 2;simpa using h) ?_
              clear hK K
              try simp only [Act.put,List.setIfInBounds_toArray,List.set_cons_zero,List.set_cons_succ]
              refine Fst.one (late:=fun k=>[7].contains k) (i:=4) (by kernel_rfl) rfl (fun K hK=>?_)
              go_simp
              (try go_wp2_with fail)
              obtain ⟨W6,hW6⟩:∃ V,V = w5.alloc (.cells #[.int .i64 (Sh.rdZ v).1,.int .i64 (Sh.rdZ v).2.1,.string (Sh.rdZ v).2.2] 60):=⟨_,rfl⟩
              have HI6:Hid (RS A A x L vi vo vz w2 W6):=by show RS _ _ _ _ _ _ _ _ _;rw [hW6];exact HI5.out.up ((Below.refl _ _).alloc (Nat.le_refl _) _)
              have HX6:Hid (W6.heap[w5.heap.size]? = some (.cells #[.int .i64 (Sh.rdZ v).1,.int .i64 (Sh.rdZ v).2.1,.string (Sh.rdZ v).2.2] 60)):=by show _ = _;rw [hW6];exact heap_alloc_new _ _
              rw [← hW6]
              refine hK _ _ (by have h:=cell_at HI6.out.box 2;simpa using h) ?_
              clear hK K hW6
              try simp only [Act.put,List.setIfInBounds_toArray,List.set_cons_zero,List.set_cons_succ]
              refine Fst.one (late:=fun k=>[7].contains k) (i:=5) (by kernel_rfl) rfl (fun K hK=>?_)
              obtain ⟨i0,hi,hz0,hz1,hz2⟩:=info_parts Es.infoS
              refine step_row rfl _ _ _ rfl Es.ES (fun _=>True) A 60 i0 (.agg #[.int .i64 0,.int .i64 0,.string ⟨#[]⟩]) 32 Tryz.underlying25 hi hz0 hz1 hz2 rfl vz x.Z rfl HI6.out.rowZ _ [Sh.rdZ v] rfl (at_sea HX6.out) (by have:=HLN.out.2.2;unfold maxLen;simp;omega) (by have:=HLN.out.2.2;simp;omega) HI6.out.sz ?_
              intro v9 w9 g1 g2 _
              obtain ⟨a9,m9,c9,rfl⟩:∃ a m c,v9 = .slice a m c:=by rcases g1 with ⟨rfl,-⟩ | ⟨g,cap,cur,rfl,-⟩ <;> exact ⟨_,_,_,rfl⟩
              have HI7:=HI6.out.sea g1 g2
              have HI8:Hid (w9.heap[A]? = some (BSt vi vo vz x.dn)):=HI7.2
              have HI9:Hid (RS A A { x with Z:=x.Z ++ [Sh.rdZ v] } L vi vo (.slice a9 m9 c9) w2 (w9.setCell ⟨A,2,none⟩ (.slice a9 m9 c9))):=HI7.1
              clear HI7
              have HS:(fun V:World=>V.cell? ⟨A,2,none⟩ = some vz) w9:=by have h:=cell_at HI8.out 2;simpa using h
              refine hK _ _ HS ?_
              clear hK K HI6 HX6 HI5
              try simp only [Act.put,List.setIfInBounds_toArray,List.set_cons_zero,List.set_cons_succ]
              refine Fst.take (ls:=[7]) (i:=6) (v:=?vz6) rfl (by kernel_rfl) (by kernel_rfl) (by kernel_rfl) (by kernel_rfl) (by kernel_rfl) (fun _ _ _ h=>h) (Or.inl ⟨by rfl,?hz6⟩) HS ?rz6
              case hz6=>(intro V s5;go_simp;try with_reducible rfl)
              try simp only [Act.put,List.setIfInBounds_toArray,List.set_cons_zero,List.set_cons_succ]
              refine Fst.rest (by kernel_rfl) ?_
              have f8:=fr_at HI8.out
              have q8:=cell_at HI8.out 2
              simp at q8
              clear HS HI8
              refine wpAny_ready (rs:=[7]) (by kernel_rfl) (by simp) ?_
              refine AllReady.cons rfl (fun K hK=>?_) AllReady.nil
              go_simp
              (try go_wp2_with fail)
              first | (refine hK _ _ ?_;clear hK K) | skip
              try simp only [Act.put,List.setIfInBounds_toArray,List.set_cons_zero,List.set_cons_succ]
              refine wpAny_done (by kernel_rfl) ?_ _
              clear q8 f8
              go_wp2
              go_roundw
              case rel=>exact ⟨k + 1,_,L,vi,vo,.slice a9 m9 c9,by omega,by go_num,HI9,by show _ = _;rw [HNX.out];unfold Sh.stS;simp⟩
              case measure=>simp [intOf];omega
            · have t4 : (tag == 4) = false := by simp [e4]
              have HNN:Hid (Sh.stS x (tag,v) = x):=by show Sh.stS x (tag,v) = x;unfold Sh.stS;rw [if_neg e1,if_neg e2,if_neg e3,if_neg e4]
              have HE2:Hid (x = (l.take (k + 1)).foldl Sh.stS Sh.st0):=by show _ = _;rw [HNX.out,HNN.out]
              clear e1 e2 e3 e4 HNX HNN HE
              go_wp2
              go_roundw
              case rel=>exact ⟨k + 1,x,L,vi,vo,vz,by omega,by go_num,by rw [← hW4];exact HI4.out,HE2⟩
              case measure=>simp [intOf];omega
    · obtain rfl : k = n := by omega
      have HXX:Hid (Sh.rdS s = x):=by
        show _ = _
        unfold Sh.rdS
        rw [HL.out,HE.out,List.take_of_length_le (by rw [HN.out];exact Nat.le_refl _)]
      obtain ⟨ia,im,ic,rfl⟩:∃ a m c,vi = .slice a m c:=by rcases HI.out.rowI with ⟨rfl,-⟩ | ⟨g,cap,cur,rfl,-⟩ <;> exact ⟨_,_,_,rfl⟩
      obtain ⟨oa,om,oc,rfl⟩:∃ a m c,vo = .slice a m c:=by rcases HI.out.rowO with ⟨rfl,-⟩ | ⟨g,cap,cur,rfl,-⟩ <;> exact ⟨_,_,_,rfl⟩
      obtain ⟨za,zm,zc,rfl⟩:∃ a m c,vz = .slice a m c:=by rcases HI.out.rowZ with ⟨rfl,-⟩ | ⟨g,cap,cur,rfl,-⟩ <;> exact ⟨_,_,_,rfl⟩
      have HAA:Hid (A2 < A):=by show A2 < A;rw [HA.out];exact (Array.getElem?_eq_some_iff.1 HT2.out).1
      have HAw:Hid (w.heap.size<=A2):=by show w.heap.size<=A2;rw [HW.out.2];exact Nat.le_refl _
      have HA2w:Hid (wr.heap[A2]? = some BS0):=(HI.out.bl.block _ HAA.out).trans HT2.out
      have b0:=cell_at HI.out.box 0
      have b1:=cell_at HI.out.box 1
      have b2:=cell_at HI.out.box 2
      have b3:=cell_at HI.out.box 3
      simp at b0 b1 b2 b3
      have f0:=fr_at HA2w.out
      have c0:=cell_at HA2w.out 0
      have c1:=cell_at HA2w.out 1
      have c2:=cell_at HA2w.out 2
      have c3:=cell_at HA2w.out 3
      simp at c0 c1 c2 c3
      have HF:Hid (((((wr.setCell ⟨A2,0,none⟩ (.slice ia im ic)).setCell ⟨A2,1,none⟩ (.slice oa om oc)).setCell ⟨A2,2,none⟩ (.slice za zm zc)).setCell ⟨A2,3,none⟩ (.int .i64 x.dn)).heap[A2]? = some (BSt (.slice ia im ic) (.slice oa om oc) (.slice za zm zc) x.dn)):=by show _ = _;have h:=(set_at (set_at (set_at (set_at HA2w.out 0 (.slice ia im ic)) 1 (.slice oa om oc)) 2 (.slice za zm zc)) 3 (.int .i64 x.dn));simpa using h
      have hg:wr.grownBy ((((wr.setCell ⟨A2,0,none⟩ (.slice ia im ic)).setCell ⟨A2,1,none⟩ (.slice oa om oc)).setCell ⟨A2,2,none⟩ (.slice za zm zc)).setCell ⟨A2,3,none⟩ (.int .i64 x.dn)) (some A2):=grown_trans (grown_trans (grown_trans (grs _ _ _ _) (grs _ _ _ _)) (grs _ _ _ _)) (grs _ _ _ _)
      have HRI:Hid (Row EI ((((wr.setCell ⟨A2,0,none⟩ (.slice ia im ic)).setCell ⟨A2,1,none⟩ (.slice oa om oc)).setCell ⟨A2,2,none⟩ (.slice za zm zc)).setCell ⟨A2,3,none⟩ (.int .i64 x.dn)) w.heap.size 52 (.slice ia im ic) L):=(HI.out.rowI.kept hg (.inr fun e=>by have:=(HI.out.rowI.lt _ e).1;have:=HAA.out;omega)).low (by have:=HAA.out;have:=HAw.out;omega)
      have HRG:Hid (∀ r∈L,Row ER ((((wr.setCell ⟨A2,0,none⟩ (.slice ia im ic)).setCell ⟨A2,1,none⟩ (.slice oa om oc)).setCell ⟨A2,2,none⟩ (.slice za zm zc)).setCell ⟨A2,3,none⟩ (.int .i64 x.dn)) w.heap.size 67 (.slice r.rp r.rn r.rc) r.i.runs/\Row EE ((((wr.setCell ⟨A2,0,none⟩ (.slice ia im ic)).setCell ⟨A2,1,none⟩ (.slice oa om oc)).setCell ⟨A2,2,none⟩ (.slice za zm zc)).setCell ⟨A2,3,none⟩ (.int .i64 x.dn)) w.heap.size 91 (.slice r.ep r.en r.ec) r.i.ents):=fun r hr=>⟨((HI.out.good r hr).1.kept hg (.inr fun e=>by have:=((HI.out.good r hr).1.lt _ e).1;have:=HAA.out;omega)).low (by have:=HAA.out;have:=HAw.out;omega),((HI.out.good r hr).2.kept hg (.inr fun e=>by have:=((HI.out.good r hr).2.lt _ e).1;have:=HAA.out;omega)).low (by have:=HAA.out;have:=HAw.out;omega)⟩
      have HRO:Hid (Row Os.EO ((((wr.setCell ⟨A2,0,none⟩ (.slice ia im ic)).setCell ⟨A2,1,none⟩ (.slice oa om oc)).setCell ⟨A2,2,none⟩ (.slice za zm zc)).setCell ⟨A2,3,none⟩ (.int .i64 x.dn)) w.heap.size 57 (.slice oa om oc) x.O):=(HI.out.rowO.kept hg (.inr fun e=>by have:=(HI.out.rowO.lt _ e).1;have:=HAA.out;omega)).low (by have:=HAA.out;have:=HAw.out;omega)
      have HRZ:Hid (Row Es.ES ((((wr.setCell ⟨A2,0,none⟩ (.slice ia im ic)).setCell ⟨A2,1,none⟩ (.slice oa om oc)).setCell ⟨A2,2,none⟩ (.slice za zm zc)).setCell ⟨A2,3,none⟩ (.int .i64 x.dn)) w.heap.size 60 (.slice za zm zc) x.Z):=(HI.out.rowZ.kept hg (.inr fun e=>by have:=(HI.out.rowZ.lt _ e).1;have:=HAA.out;omega)).low (by have:=HAA.out;have:=HAw.out;omega)
      have HEQ:Hid (pl L = x.L):=HI.out.eq
      have HBW:Hid (Below w.heap.size w wr):=HB2.out.trans (HI.out.bl.mono (by rw [HA.out];exact HB2.out.size))
      have HBF:Hid (Below w.heap.size w ((((wr.setCell ⟨A2,0,none⟩ (.slice ia im ic)).setCell ⟨A2,1,none⟩ (.slice oa om oc)).setCell ⟨A2,2,none⟩ (.slice za zm zc)).setCell ⟨A2,3,none⟩ (.int .i64 x.dn))):=HBW.out.grown hg HBW.out.size (fun j hj=>by cases hj;exact HAw.out)
      clear hg
      go_wp2
      generalize ((((wr.setCell ⟨A2,0,none⟩ (.slice ia im ic)).setCell ⟨A2,1,none⟩ (.slice oa om oc)).setCell ⟨A2,2,none⟩ (.slice za zm zc)).setCell ⟨A2,3,none⟩ (.int .i64 x.dn)) = WF at HF HRI HRG HRO HRZ HBF ⊢
      have d0:=cell_at HF.out 0
      have d1:=cell_at HF.out 1
      have d2:=cell_at HF.out 2
      have d3:=cell_at HF.out 3
      simp at d0 d1 d2 d3
      refine bodyPost_ret (v:=.agg #[.slice ia im ic,.slice oa om oc,.slice za zm zc,.int .i64 x.dn]) ?_ rfl ?_
      · rw [results_cell1 rfl]
        go_simp
      · rw [HXX.out]
        exact ⟨L,_,_,_,rfl,HEQ.out,HRI.out,HRG.out,HRO.out,HRZ.out,HBF.out⟩
structure US (n0:Nat) (x:Sh.Sta) (L:List Rw) (vi vo vz:Value) (w:World):Prop where
  eq:pl L = x.L
  rowI:Row EI w n0 52 vi L
  good:∀ r∈L,Row ER w n0 67 (.slice r.rp r.rn r.rc) r.i.runs/\Row EE w n0 91 (.slice r.ep r.en r.ec) r.i.ents
  rowO:Row Os.EO w n0 57 vo x.O
  rowZ:Row Es.ES w n0 60 vz x.Z
section
variable {n0 n1:Nat} {x:Sh.Sta} {L:List Rw} {vi vo vz:Value} {w w':World}
theorem US.kept {A:Nat} (h:US n1 x L vi vo vz w) (hg:w.grownBy w' (some A)) (hA:A < n1):US n1 x L vi vo vz w':=by
  have off:∀ {α:Type} {E:Enc α} {T:TypeId} {v:Value} {ls:List α},Row E w n1 T v ls->v.ownBlock = none∨v.ownBlock≠some A:=fun q=>.inr fun e=>by have h9:=(q.lt _ e).1;omega
  exact ⟨h.eq,h.rowI.kept hg (off h.rowI),fun r hr=>⟨(h.good r hr).1.kept hg (off (h.good r hr).1),(h.good r hr).2.kept hg (off (h.good r hr).2)⟩,h.rowO.kept hg (off h.rowO),h.rowZ.kept hg (off h.rowZ)⟩
theorem US.low (h:US n1 x L vi vo vz w) (hn:n0<=n1):US n0 x L vi vo vz w:=⟨h.eq,h.rowI.low hn,fun r hr=>⟨(h.good r hr).1.low hn,(h.good r hr).2.low hn⟩,h.rowO.low hn,h.rowZ.low hn⟩
theorem US.up (h:US n0 x L vi vo vz w) (hb:Below w.heap.size w w'):US n0 x L vi vo vz w':=⟨h.eq,h.rowI.up hb,fun r hr=>⟨(h.good r hr).1.up hb,(h.good r hr).2.up hb⟩,h.rowO.up hb,h.rowZ.up hb⟩
theorem US.none (n0:Nat) (w:World):US n0 Sh.st0 [] (.slice none 0 0) (.slice none 0 0) (.slice none 0 0) w:=⟨rfl,Row.nil _ _ _ _,(fun _ hr=>by cases hr),Row.nil _ _ _ _,Row.nil _ _ _ _⟩
theorem US.mem (h:US n0 x L vi vo vz w) {r:Rw} (hr:r∈L):r.i∈x.L:=by rw [← h.eq];exact List.mem_map.2 ⟨r,hr,rfl⟩
theorem US.tab (h:US n0 x L vi vo vz w) (hok:∀ y∈x.L,okI y/\∀ e∈y.ents,e.1.size<=maxLen):TabAt (fun b=>n0<=b) w vi L:=⟨h.rowI.at,fun r hr=>⟨(h.good r hr).1.at,(h.good r hr).2.at,(hok _ (h.mem hr)).1⟩⟩
theorem US.okN (h:US n0 x L vi vo vz w) (hok:∀ y∈x.L,okI y/\∀ e∈y.ents,e.1.size<=maxLen):Sp.okN L:=fun _ hr=>(hok _ (h.mem hr)).2
theorem US.opens (h:US n0 x L vi vo vz w):AtW Os.EO w vo x.O:=h.rowO.at.wide
theorem US.seats (h:US n0 x L vi vo vz w):AtW Es.ES w vz x.Z:=h.rowZ.at.wide
theorem US.slices (h:US n0 x L vi vo vz w):(∃ a n c,vi = .slice a n c)/\(∃ a n c,vo = .slice a n c)/\∃ a n c,vz = .slice a n c:=by
  obtain ⟨a,c,h1⟩:=h.rowI.slice
  obtain ⟨a2,c2,h2⟩:=h.rowO.slice
  obtain ⟨a3,c3,h3⟩:=h.rowZ.slice
  exact ⟨⟨_,_,_,h1⟩,⟨_,_,_,h2⟩,_,_,_,h3⟩
theorem RS.us {A:Nat} {w0:World} (h:RS n0 A x L vi vo vz w0 w):US n0 x L vi vo vz w:=⟨h.eq,h.rowI,h.good,h.rowO,h.rowZ⟩
end
/-- Four cells written. -/
def put4 (w:World) (A:Nat) (a b c d:Value):World:=(((w.setCell ⟨A,0,none⟩ a).setCell ⟨A,1,none⟩ b).setCell ⟨A,2,none⟩ c).setCell ⟨A,3,none⟩ d
theorem put4_gr (w:World) (A:Nat) (a b c d:Value):w.grownBy (put4 w A a b c d) (some A):=grown_trans (grown_trans (grown_trans (grs _ _ _ _) (grs _ _ _ _)) (grs _ _ _ _)) (grs _ _ _ _)
theorem put4_at {w:World} {A:Nat} {a b c d a' b' c' d':Value} {T:TypeId} (h:w.heap[A]? = some (.cells #[a',b',c',d'] T (0,0))):(put4 w A a b c d).heap[A]? = some (.cells #[a,b,c,d] T (0,0)):=by
  have:=set_at (set_at (set_at (set_at h 0 a) 1 b) 2 c) 3 d
  show ((((w.setCell ⟨A,0,none⟩ a).setCell ⟨A,1,none⟩ b).setCell ⟨A,2,none⟩ c).setCell ⟨A,3,none⟩ d).heap[A]? = _
  simpa using this
set_option maxHeartbeats 1000000 in
theorem shnum_any (n z:Int) (w:World) (hn:n<=9223372036854775807) :
    Calls Tryz.prog 22 #[.int .i64 n,.int .i64 z] w fun e w'=>e = .returned (.string (Sh.nb n z))/\Below w.heap.size w w':=by
  have HN:Hid (n<=9223372036854775807):=hn
  clear hn
  go_enter Tryz.func22,Tryz.ntmps22
  go_wp2_with fail
  refine (Ks.num_any n z _ HN.out).mono ?_
  rintro e w1 ⟨rfl,hb⟩
  have HB:Hid (Below w.heap.size w w1):=hb
  clear hb
  go_wp2
  go_ret
  exact ⟨rfl,HB.out⟩
set_option linter.unusedSimpArgs false in
set_option maxHeartbeats 2000000 in
theorem shhandle_any (no gen:Int) (w:World) (h1:no<=9223372036854775807) (h2:gen<=9223372036854775807) :
    Calls Tryz.prog 24 #[.agg #[.int .i64 no,.int .i64 gen]] w fun e w'=>e = .returned (.string (Ks.Ak.hbytes no gen))/\Below w.heap.size w w':=by
  obtain ⟨W,hW⟩:∃ W,W = w.alloc (BH no gen):=⟨_,rfl⟩
  have HB0:Hid (Below w.heap.size w W):=by show Below w.heap.size w W;rw [hW];exact (Below.refl _ w).alloc (Nat.le_refl _) _
  have HA0:Hid (W.heap[w.heap.size]? = some (BH no gen)):=by show W.heap[w.heap.size]? = _;rw [hW];exact heap_alloc_new _ _
  have H1:Hid (no<=9223372036854775807):=h1
  have H2:Hid (gen<=9223372036854775807):=h2
  have HL:Hid (w.heap.size < W.heap.size):=(Array.getElem?_eq_some_iff.1 HA0.out).1
  clear h1 h2
  go_enter Tryz.func24,Tryz.ntmps24
  go_wp2_with fail
  rw [← hW]
  clear hW
  refine wp_region_any (by kernel_rfl) ?_
  change wpAny _ _ _ _ _ _ _ (World.drew _)
  refine wpAny_take (i:=0) (v:=?v0) rfl (by kernel_rfl) (by kernel_rfl) (by kernel_rfl) (fun _ _ _ h=>h) (Or.inl ⟨by rfl,?h0⟩) ?r0
  case h0=>(intro w;go_simp;try with_reducible rfl)
  try simp only [Act.put,List.setIfInBounds_toArray,List.set_cons_zero,List.set_cons_succ]
  refine wpAny_take (i:=3) (v:=?v3) rfl (by kernel_rfl) (by kernel_rfl) (by kernel_rfl) (fun _ _ _ h=>h) (Or.inl ⟨by rfl,?h3⟩) ?r3
  case h3=>(intro w;go_simp;try with_reducible rfl)
  try simp only [Act.put,List.setIfInBounds_toArray,List.set_cons_zero,List.set_cons_succ]
  have HS:(fun V:World=>V.cell? ⟨w.heap.size,0,none⟩ = some (.int .i64 no)/\V.cell? ⟨w.heap.size,1,none⟩ = some (.int .i64 gen)) W.drew:=⟨cell_at HA0.out 0,cell_at HA0.out 1⟩
  refine Fst.any_of (late:=fun k=>[7].contains k) (S:=(fun V:World=>V.cell? ⟨w.heap.size,0,none⟩ = some (.int .i64 no)/\V.cell? ⟨w.heap.size,1,none⟩ = some (.int .i64 gen))) _ _ _ _ ?_
  refine Fst.take (ls:=[7]) (i:=1) (v:=?v1) rfl (by kernel_rfl) (by kernel_rfl) (by kernel_rfl) (by kernel_rfl) (by kernel_rfl) (fun _ _ _ h=>h) (Or.inl ⟨by rfl,?h1⟩) HS ?r1
  case h1=>(rintro V ⟨s0,s1⟩;go_simp;try with_reducible rfl)
  try simp only [Act.put,List.setIfInBounds_toArray,List.set_cons_zero,List.set_cons_succ]
  refine Fst.take (ls:=[7]) (i:=4) (v:=?v4) rfl (by kernel_rfl) (by kernel_rfl) (by kernel_rfl) (by kernel_rfl) (by kernel_rfl) (fun _ _ _ h=>h) (Or.inl ⟨by rfl,?h4⟩) HS ?r4
  case h4=>(rintro V ⟨s0,s1⟩;go_simp;try with_reducible rfl)
  try simp only [Act.put,List.setIfInBounds_toArray,List.set_cons_zero,List.set_cons_succ]
  clear HS
  refine Fst.one (late:=fun k=>[7].contains k) (i:=2) (by kernel_rfl) rfl (fun K hK=>?_)
  go_simp
  refine (shnum_any no 1 W.drew H1.out).mono ?_
  rintro e w1 ⟨rfl,hb⟩
  have HB1:Hid (Below W.heap.size W w1):=undrew hb
  have HA1:Hid (w1.heap[w.heap.size]? = some (BH no gen)):=(HB1.out.block _ HL.out).trans HA0.out
  clear hb
  (try go_wp2_with fail)
  refine hK _ _ ⟨cell_at HA1.out 0,cell_at HA1.out 1⟩ ?_
  clear hK K
  try simp only [Act.put,List.setIfInBounds_toArray,List.set_cons_zero,List.set_cons_succ]
  refine Fst.one (late:=fun k=>[7].contains k) (i:=5) (by kernel_rfl) rfl (fun K hK=>?_)
  go_simp
  refine (shnum_any gen 6 w1 H2.out).mono ?_
  rintro e w2 ⟨rfl,hb⟩
  have HB2:Hid (Below W.heap.size W w2):=HB1.out.trans (hb.mono HB1.out.size)
  have HA2:Hid (w2.heap[w.heap.size]? = some (BH no gen)):=(HB2.out.block _ HL.out).trans HA0.out
  have HBZ:Hid (Below w.heap.size w w2):=HB0.out.trans (HB2.out.mono HB0.out.size)
  clear hb HB1 HA1
  have hsz:¬ (9223372036854775807 < (Sh.nb no 1).size + (Sh.nb gen 6).size):=by
    have h:=Ks.Ak.hbytes_le no gen
    unfold Ks.Ak.hbytes at h
    rw [ByteArray.size_append] at h
    show ¬ (9223372036854775807 < (Ks.Pl.numOut no 1).size + (Ks.Pl.numOut gen 6).size)
    omega
  (try go_wp2_with fail)
  have HS:(fun V:World=>V.cell? ⟨w.heap.size,0,none⟩ = some (.int .i64 no)/\V.cell? ⟨w.heap.size,1,none⟩ = some (.int .i64 gen)) w2:=⟨cell_at HA2.out 0,cell_at HA2.out 1⟩
  refine hK _ _ HS ?_
  clear hK K
  try simp only [Act.put,List.setIfInBounds_toArray,List.set_cons_zero,List.set_cons_succ]
  refine Fst.take (ls:=[7]) (i:=6) (v:=?v6) rfl (by kernel_rfl) (by kernel_rfl) (by kernel_rfl) (by kernel_rfl) (by kernel_rfl) (fun _ _ _ h=>h) (Or.inl ⟨by rfl,?h6⟩) HS ?r6
  case h6=>(rintro V ⟨s0,s1⟩;go_simp;try with_reducible rfl)
  try simp only [Act.put,List.setIfInBounds_toArray,List.set_cons_zero,List.set_cons_succ]
  refine Fst.rest (by kernel_rfl) ?_
  clear HS
  refine wpAny_ready (rs:=[7]) (by kernel_rfl) (by simp) ?_
  refine AllReady.cons rfl (fun K hK=>?_) AllReady.nil
  go_simp
  (try go_wp2_with fail)
  first | (refine hK _ _ ?_;clear hK K) | skip
  try simp only [Act.put,List.setIfInBounds_toArray,List.set_cons_zero,List.set_cons_succ]
  refine wpAny_done (by kernel_rfl) ?_ _
  go_wp2
  go_ret
  exact ⟨rfl,HBZ.out⟩
def Sh.EF:Enc Sh.F:=⟨2,fun x=>[.int .i64 x.1,.string x.2],fun _=>rfl,fun x u hu=>by
  simp at hu
  rcases hu with rfl | rfl <;> rfl⟩
theorem row_fields {T:TypeId} {n0:Nat} {w:World} {v:Value} {l:List Sh.F} (h:Row Sh.EF w n0 T v l):Ks.FieldsAt w.heap.size w v l:=by
  have hx:=h.at.open
  rcases h with ⟨rfl,rfl⟩ | ⟨g,cap,cur,rfl,hB,hh,h1,h2,h3,h4⟩
  · exact .inl ⟨_,_,rfl,rfl⟩
  · obtain ⟨ao, c', he, hm, hc⟩ := hx
    by_cases hp:0 < l.length
    · refine .inr ⟨g, 0, cap, rfl, (Array.getElem?_eq_some_iff.1 hh).1, hp, h1, h2, fun i hi => ?_⟩
      obtain ⟨b,off,hb,-,-,hu⟩:=hc i (l.getD i (0,.empty)) (by simp [List.getD,hi])
      injection he with e1 e2 e3
      rw [← e1] at hb
      injection hb with hb
      injection hb with b1 b2 b3
      subst b1 b2
      exact ⟨hu 0 _ rfl,hu 1 _ rfl⟩
    · have : l = [] := List.eq_nil_of_length_eq_zero (by omega)
      subst this
      exact .inl ⟨_,_,rfl,rfl⟩
theorem row_one {T:TypeId} {n0 B:Nat} {w:World} {f:Sh.F} (h:w.heap[B]? = some (.cells #[.int .i64 f.1,.string f.2] T (0,0))) (hn:n0<=B):Row Sh.EF w n0 T (.slice (some ⟨B,0,none⟩) 1 1) [f] :=
  .inr ⟨B,1,_,rfl,hn,h,by simp,by unfold maxLen;decide,by simp [Sh.EF],by simp [Enc.flat,Sh.EF]⟩
theorem Sh.map_take {α:Type} (f:α->Sh.F) {l:List α} {k:Nat} {x:α} (h:l[k]? = some x):(l.take (k + 1)).map f = (l.take k).map f ++ [f x]:=by
  obtain ⟨hk,rfl⟩:=List.getElem?_eq_some_iff.1 h
  rw [List.take_succ_eq_append_getElem hk,List.map_append]
  rfl
structure PB (T To:TypeId) (A n0:Nat) (o:Array Value) (l:List Sh.F) (v:Value) (w0 w:World):Prop where
  box:w.heap[A]? = some (.cells o To (0,0))
  row:Row Sh.EF w n0 T v l
  base:n0<=A
  bl:Below n0 w0 w
  st:n0<=w0.heap.size
section
variable {T To:TypeId} {A n0:Nat} {o:Array Value} {l:List Sh.F} {v:Value} {w0 w w':World}
theorem PB.sz (h:PB T To A n0 o l v w0 w):n0<=w.heap.size:=Nat.le_trans h.st h.bl.size
theorem PB.lt (h:PB T To A n0 o l v w0 w):A < w.heap.size:=(Array.getElem?_eq_some_iff.1 h.box).1
theorem PB.up (h:PB T To A n0 o l v w0 w) (hb:Below w.heap.size w w'):PB T To A n0 o l v w0 w':=⟨(hb.block _ h.lt).trans h.box,h.row.up hb,h.base,h.bl.trans (hb.mono h.sz),h.st⟩
theorem PB.al (h:PB T To A n0 o l v w0 w) (x:Obj):PB T To A n0 o l v w0 (w.alloc x):=h.up ((Below.refl _ _).alloc (Nat.le_refl _) _)
theorem PB.drew (h:PB T To A n0 o l v w0 w):PB T To A n0 o l v w0 w.drew:=⟨h.box,h.row,h.base,h.bl.drew,h.st⟩
theorem PB.other {b:Nat} {oo:Array Value} {Te:TypeId} (h:w.heap[b]? = some (.cells oo Te (0,0))) (hr:Row Sh.EF w n0 T v l) (hne:Te≠T) (hg:w.grownBy w' v.ownBlock):w'.heap[b]? = some (.cells oo Te (0,0)) :=
  (hg.block b (Array.getElem?_eq_some_iff.1 h).1 (fun e=>hr.off' h hne e.symm)).trans h
theorem PB.app {f:Sh.F} {v9:Value} (h:PB T To A n0 o l v w0 w) (hne:To≠T) (hr:Row Sh.EF w' n0 T v9 (l ++ [f])) (hg:w.grownBy w' v.ownBlock):PB T To A n0 o (l ++ [f]) v9 w0 w' :=
  ⟨PB.other h.box h.row hne hg,hr,h.base,h.bl.grown hg h.sz (fun j hj=>(h.row.lt j hj).1),h.st⟩
theorem PB.slice (h:PB T To A n0 o l v w0 w):∃ a m c,v = .slice a m c:=by
  obtain ⟨p,c,h⟩:=h.row.slice
  exact ⟨_,_,_,h⟩
end
theorem infoT:(Tryz.prog.info? 70).map (fun i=>(i.zero,i.size,i.bytes)) = some (some (.agg #[.int .i64 0,.string ⟨#[]⟩]),2,24):=by kernel_rfl
theorem infoU:(Tryz.prog.info? 45).map (fun i=>(i.zero,i.size,i.bytes)) = some (some (.agg #[.int .i64 0,.string ⟨#[]⟩]),2,24):=by kernel_rfl
end Go.Proofs.YtggoccfddnpelaaGreat
