/- RAdd, RFields, TPack, RPack, as one. -/
import Derived.Test.YtggoccfddnpelaaGreatR19
namespace Go.Proofs.YtggoccfddnpelaaGreat.Ks.Rs
open Go.ChangeShapes Go.WideShapes Go.ChangeAt Go.RowKit Go.Deep
set_option maxRecDepth 100000
open Go.Proofs.YtggoccfddnpelaaGreat.Ks.Ak
theorem infoF:(Tryz.prog.info? 70).map (fun i=>(i.zero,i.size,i.bytes)) = some (some (.agg #[.int .i64 0,.string ⟨#[]⟩]),2,24):=by kernel_rfl
theorem num_s (n size:Int) (w:World) (hn:n<=9223372036854775807):Calls Tryz.prog 157 #[.int .i64 n,.int .i64 size] w fun e w'=>e = .returned (.string (Pl.numOut n size))/\Below w.heap.size w w':=by
  go_enter Tryz.func157,Tryz.ntmps157
  go_wp2_with fail
  refine (num_any n size _ hn).mono ?_
  rintro e w1 ⟨rfl,hb⟩
  go_wp2
  go_ret
  exact ⟨rfl,hb⟩
set_option maxHeartbeats 1000000 in
theorem packHandle_any (no gen:Int) (w:World) (hn:no<=9223372036854775807) (hg:gen<=9223372036854775807):Calls Tryz.prog 158 #[VH no gen] w fun e w'=>e = .returned (.string (hbytes no gen))/\Below w.heap.size w w':=by
  have z1:=numOut_le no 1
  have z2:=numOut_le gen 6
  obtain ⟨n1,hn1⟩:∃ n1,Pl.numOut no 1 = n1:=⟨_,rfl⟩
  obtain ⟨n2,hn2⟩:∃ n2,Pl.numOut gen 6 = n2:=⟨_,rfl⟩
  have HO:Hid (hbytes no gen = n1 ++ n2):=by show hbytes no gen = _;rw [← hn1,← hn2];rfl
  rw [hn1] at z1
  rw [hn2] at z2
  have hq1:¬ 9223372036854775807 < n1.size + n2.size:=by omega
  obtain ⟨W,hW⟩:∃ W,W = w.alloc (BH no gen):=⟨_,rfl⟩
  have hbk:W.heap[w.heap.size]? = some (BH no gen):=by rw [hW];exact heap_alloc_new w _
  have HB0:Hid (Below w.heap.size w W):=by show Below w.heap.size w W;rw [hW];exact (Below.refl _ _).alloc (Nat.le_refl _) _
  obtain ⟨a0,a1⟩:=two_of hbk
  have c0:=fun p:Grw W=>p.cell a0
  have c1:=fun p:Grw W=>p.cell a1
  have HC1:Hid (∀ V,Calls Tryz.prog 157 #[.int .i64 no,.int .i64 1] V fun e w'=>e = .returned (.string n1)/\Below V.heap.size V w'):=fun V=>by rw [← hn1];exact num_s no 1 V hn
  have HC2:Hid (∀ V,Calls Tryz.prog 157 #[.int .i64 gen,.int .i64 6] V fun e w'=>e = .returned (.string n2)/\Below V.heap.size V w'):=fun V=>by rw [← hn2];exact num_s gen 6 V hg
  have hne9:Nonempty (Grw W):=grw_some W
  clear hn1 hn2 hbk a0 a1 hn hg
  go_enter Tryz.func158,Tryz.ntmps158
  go_wp2_with fail
  rw [← hW]
  clear hW
  refine wp_region_grw (by kernel_rfl) (by kernel_rfl) ?_
  repeat (go_big_quiet_step (first
    | (go_at_call_of 157 (Value.int .i64 6);with_reducible refine calls_grw (Grw.grown _) (HC2.out _))
    | (go_at_call 157;with_reducible refine calls_grw (Grw.grown _) (HC1.out _))))
  rintro w9 ⟨p9,rfl⟩
  have HB:Hid (Below w.heap.size w p9.out):=HB0.out.trans (p9.below.mono HB0.out.size)
  go_wp2
  go_ret
  rw [HO.out]
  exact ⟨rfl,HB.out⟩
/-- What holds behind each field: the box b has a slice of the call's own, whose fields are l; the blocks of w0 are as they were. -/
structure St (n0 b:Nat) (l:List (Int × ByteArray)) (w0:World) (v:Value) (w:World):Prop where
  box:Boxed w b 71 v
  row:w.ownsRow n0 70 2 v l.length (cellsOf l)
  below:Below n0 w0 w
  base:n0<=b
  start:n0<=w0.heap.size
theorem St.step {n0 b:Nat} {l:List (Int × ByteArray)} {w0 w w':World} {v:Value} (h:St n0 b l w0 v w) (hb:Below w.heap.size w w'):St n0 b l w0 v w' :=
  ⟨block_step h.box hb,h.row.kept (grown_of_below hb none) (Classical.em _),h.below.trans (hb.mono (Nat.le_trans h.start h.below.size)),h.base,h.start⟩
theorem St.fields {n0 b:Nat} {l:List (Int × ByteArray)} {w0 w:World} {v:Value} (h:St n0 b l w0 v w):FieldsAt w.heap.size w v l:=FieldsAt.of_own h.row
def Others (b:Nat) (w w':World):Prop:=∀ B o t,t≠70->B≠b->w.heap[B]? = some (.cells o t (0,0))->w'.heap[B]? = some (.cells o t (0,0))
theorem added {n0 b:Nat} {l:List (Int × ByteArray)} {w0 w w1:World} {v v1:Value} {tag:Int} {s:ByteArray} {o:Obj} (h:St n0 b l w0 v w)
    (hown:w1.ownsRow n0 70 2 v1 (l.length + 1) (cellsOf l ++ [.int .i64 tag,.string s])) (hgrow:(w.alloc o).grownBy w1 v.ownBlock) :
    ∃ g cap,v1 = .slice (some ⟨g,0,none⟩) (l.length + 1) cap/\w1.cell? ⟨b,0,none⟩ = some v/\w1.frozen? ⟨b,0,none⟩ = false/\b < w1.heap.size/\Hid (St n0 b (l ++ [(tag,s)]) w0 v1 (w1.setCell ⟨b,0,none⟩ v1)/\Others b w (w1.setCell ⟨b,0,none⟩ v1)):=by
  obtain ⟨g1,cap1,hv1⟩:=ownsRow_succ hown
  have hb1:Boxed w1 b 71 v:=(h.box.alloc _).kept hgrow ((h.box.alloc o).not_row (by decide) (h.row.alloc o))
  refine ⟨g1,cap1,hv1,hb1.cell,hb1.frozen,hb1.lt,⟨hb1.set _,?_,?_,h.base,h.start⟩,?_⟩
  · refine World.ownsRow.kept (w := w1) ?_ (grownBy_setCell' w1 b _) (.inr (hb1.not_row (by decide) hown).symm)
    rw [cellsOf_append,List.length_append]
    exact hown
  · have h1 := h.below.size
    have h2:=h.start
    exact ((h.below.alloc (Nat.le_trans h2 h1) _).grown hgrow (by simp;omega) (fun g hg=>(h.row.lt g hg).1)).setCell (p:=⟨b,0,none⟩) h.base _
  · intro B o' t ht hB hBo
    have h1:w1.heap[B]? = some (.cells o' t (0,0)):=App.keep (h.row.alloc o) hgrow ((Below.heap_alloc w o B (block_lt hBo)).trans hBo) ht
    exact (Below.heap_setCell _ _ _ B (fun e=>hB e)).trans h1
set_option maxHeartbeats 1000000 in
theorem add_any (there:Bool) (tag:Int) (s:ByteArray) (n0 b:Nat) (l:List (Int × ByteArray)) (w0:World) (v:Value) (w:World) (h:St n0 b l w0 v w) (hl:l.length<=1000) :
    Calls Tryz.prog 156 #[.bool there,.int .i64 tag,.string s,.pointer (some ⟨b,0,none⟩)] w fun e w'=>e = .returned (.tuple #[])/\∃ v',St n0 b (l ++ opt there (tag,s)) w0 v' w'/\Others b w w':=by
  cases there with
  | false =>
    have HL:Hid (l ++ opt false (tag,s) = l):=by simp [Hid,opt]
    rw [HL.out]
    go_enter Tryz.func156,Tryz.ntmps156
    go_wp2
    go_end0
    exact ⟨rfl,v,h,fun _ _ _ _ _ hB=>hB⟩
  | true =>
    have HL:Hid (l ++ opt true (tag,s) = l ++ [(tag,s)]):=by simp [Hid,opt]
    rw [HL.out]
    obtain ⟨i0,hi,hz0,hz1,hz2⟩:=info_parts infoF
    have hc:=h.box.cell
    have hlt:=h.box.lt
    have HH:Hid (St n0 b l w0 v w):=h
    clear h
    go_enter Tryz.func156,Tryz.ntmps156
    go_wp2_with (at_builtin;refine wpList_append_own _ rfl (.tmp 8) (.tmp 12) 71 rfl n0 70 i0 (.agg #[.int .i64 0,.string ⟨#[]⟩]) 2 24 Tryz.underlying71 hi hz0 hz1 hz2 rfl (by decide) _ _ _ rfl (HH.out.row.alloc _) ⟨w.heap.size,0,none⟩ 1 1 [.int .i64 tag,.string s] rfl rfl (App.two_new _ _ rfl _ _ _) (App.one2 _ _) (by unfold maxLen;omega) (by omega) (by have:=HH.out.below.size;have:=HH.out.start;simp;omega) ?_;intro v1 w1 hown1 hgrow1 _;obtain ⟨g1,cap1,rfl,q0,q1,q2,HQ⟩:=added HH.out hown1 hgrow1;clear hown1 hgrow1)
    go_end0
    exact ⟨rfl,_,HQ.out⟩
theorem packAttr_any (k l s t:Int) (w:World) (hs:s<=9223372036854775807) (ht:t<=9223372036854775807) (hk:k<=9223372036854775807) (hl:l<=9223372036854775807):Calls Tryz.prog 159 #[VA k l s t] w fun e w'=>e = .returned (.string (At.packOut k l s t))/\Below w.heap.size w w':=by
  go_enter Tryz.func159,Tryz.ntmps159
  go_wp2_with fail
  refine (apack_any k l s t _ hs ht hk hl).mono ?_
  rintro e w1 ⟨rfl,hb⟩
  have HB1:Hid (Below w.heap.size w w1):=((Below.refl _ _).alloc (Nat.le_refl _) _).trans (hb.mono (by simp))
  go_wp2
  go_ret
  exact ⟨rfl,HB1.out⟩
set_option maxHeartbeats 1000000 in
theorem packEntry_any (x:Ent) (w:World) (hc:x.2.1<=9223372036854775807) (hn:x.2.2.1<=9223372036854775807) (hg:x.2.2.2<=9223372036854775807) (hs:x.1.size<=65535):Calls Tryz.prog 160 #[VE x] w fun e w'=>e = .returned (.string (Re.ebytes x))/\Below w.heap.size w w':=by
  have z1:=numOut_le x.2.1 6
  have z2:=hbytes_le x.2.2.1 x.2.2.2
  obtain ⟨n1,hn1⟩:∃ n1,Pl.numOut x.2.1 6 = n1:=⟨_,rfl⟩
  obtain ⟨n2,hn2⟩:∃ n2,hbytes x.2.2.1 x.2.2.2 = n2:=⟨_,rfl⟩
  have HO:Hid (Re.ebytes x = n1 ++ n2 ++ x.1):=by show Re.ebytes x = _;rw [← hn1,← hn2];rfl
  rw [hn1] at z1
  rw [hn2] at z2
  have hq1:¬ 9223372036854775807 < n1.size + n2.size:=by omega
  have hq2:¬ 9223372036854775807 < n1.size + n2.size + x.1.size:=by omega
  obtain ⟨W,hW⟩:∃ W,W = w.alloc (BE x):=⟨_,rfl⟩
  have hbk:W.heap[w.heap.size]? = some (BE x):=by rw [hW];exact heap_alloc_new w _
  have HB0:Hid (Below w.heap.size w W):=by show Below w.heap.size w W;rw [hW];exact (Below.refl _ _).alloc (Nat.le_refl _) _
  obtain ⟨a0,a1,a2,a3⟩:=ent_of hbk
  have c0:=fun p:Grw W=>p.cell a0
  have c1:=fun p:Grw W=>p.cell a1
  have c2:=fun p:Grw W=>p.cell a2
  have c3:=fun p:Grw W=>p.cell a3
  have HC1:Hid (∀ V,Calls Tryz.prog 157 #[.int .i64 x.2.1,.int .i64 6] V fun e w'=>e = .returned (.string n1)/\Below V.heap.size V w'):=fun V=>by rw [← hn1];exact num_s x.2.1 6 V hc
  have HC2:Hid (∀ V,Calls Tryz.prog 158 #[VH x.2.2.1 x.2.2.2] V fun e w'=>e = .returned (.string n2)/\Below V.heap.size V w'):=fun V=>by rw [← hn2];exact packHandle_any _ _ V hn hg
  have hne9:Nonempty (Grw W):=grw_some W
  clear hn1 hn2 hbk a0 a1 a2 a3 hn hg hc
  go_enter Tryz.func160,Tryz.ntmps160
  go_wp2_with fail
  rw [← hW]
  clear hW
  refine wp_region_grw (by kernel_rfl) (by kernel_rfl) ?_
  repeat (go_big_quiet_step (first
    | (go_at_call 157;with_reducible refine calls_grw (Grw.grown _) (HC1.out _))
    | (go_at_call 158;with_reducible refine calls_grw (Grw.grown _) (HC2.out _))))
  rintro w9 ⟨p9,rfl⟩
  have HB:Hid (Below w.heap.size w p9.out):=HB0.out.trans (p9.below.mono HB0.out.size)
  go_wp2
  go_ret
  rw [HO.out]
  exact ⟨rfl,HB.out⟩
/-- The reply's box and the fields so far. -/
def Fr (A n0 b:Nat) (r:Rep) (u:Value) (l:List (Int × ByteArray)) (w0:World) (v:Value) (w:World):Prop:=w.heap[A]? = some (BR r u)/\St n0 b l w0 v w
theorem Fr.step {A n0 b:Nat} {r:Rep} {u:Value} {l:List (Int × ByteArray)} {w0 w w':World} {v:Value} (h:Fr A n0 b r u l w0 v w) (hb:Below w.heap.size w w'):Fr A n0 b r u l w0 v w':=⟨block_step h.1 hb,h.2.step hb⟩
theorem Fr.drew {A n0 b:Nat} {r:Rep} {u:Value} {l:List (Int × ByteArray)} {w0 w:World} {v:Value} (h:Fr A n0 b r u l w0 v w):Fr A n0 b r u l w0 v w.drew:=⟨h.1,⟨h.2.box,h.2.row,h.2.below.drew,h.2.base,h.2.start⟩⟩
theorem neq_hand (no gen:Int) (w:World):(binOp .neq 55 (VH no gen) (VH 0 0)).run Tryz.prog w = .ok (.bool (hnz no gen)) w:=by
  unfold hnz
  cases h1:(no == 0) <;> cases h2:(gen == 0) <;> go_simp <;> simp [h1,h2]
theorem neq_attr (k l s t:Int) (w:World):(binOp .neq 48 (VA k l s t) (VA 0 0 0 0)).run Tryz.prog w = .ok (.bool (Re.anz k l s t)) w:=by
  unfold Re.anz
  cases h1:(k == 0) <;> cases h2:(l == 0) <;> cases h3:(s == 0) <;> cases h4:(t == 0) <;> go_simp <;> simp [h1,h2,h3,h4]
theorem held2_below {A i j:Nat} {x y:Value} {o:Obj} {w w':World} (h:w.cell? ⟨A,i,none⟩ = some x/\w.cell? ⟨A,j,none⟩ = some y/\w.heap[A]? = some o) (hb:Below w.heap.size w w') :
    w'.cell? ⟨A,i,none⟩ = some x/\w'.cell? ⟨A,j,none⟩ = some y/\w'.heap[A]? = some o:=⟨cell_step h.1 hb,cell_step h.2.1 hb,block_step h.2.2 hb⟩
theorem held2_others {A b i j:Nat} {x y:Value} {r:Rep} {u:Value} {w w':World} (hne:A≠b) (h:w.cell? ⟨A,i,none⟩ = some x/\w.cell? ⟨A,j,none⟩ = some y/\w.heap[A]? = some (BR r u)) (ho:Others b w w') :
    w'.cell? ⟨A,i,none⟩ = some x/\w'.cell? ⟨A,j,none⟩ = some y/\w'.heap[A]? = some (BR r u):=by
  have h3:=ho A _ _ (by decide) hne h.2.2
  have e:w'.heap[A]? = w.heap[A]?:=h3.trans h.2.2.symm
  exact ⟨by simp only [World.cell?,e];exact h.1,by simp only [World.cell?,e];exact h.2.1,h3⟩
theorem held4_below {A:Nat} {x0 x1 x2 x3:Value} {o:Obj} {w w':World} (h:w.cell? ⟨A,3,none⟩ = some x0/\w.cell? ⟨A,4,none⟩ = some x1/\w.cell? ⟨A,5,none⟩ = some x2/\w.cell? ⟨A,6,none⟩ = some x3/\w.heap[A]? = some o) (hb:Below w.heap.size w w') :
    w'.cell? ⟨A,3,none⟩ = some x0/\w'.cell? ⟨A,4,none⟩ = some x1/\w'.cell? ⟨A,5,none⟩ = some x2/\w'.cell? ⟨A,6,none⟩ = some x3/\w'.heap[A]? = some o:=⟨cell_step h.1 hb,cell_step h.2.1 hb,cell_step h.2.2.1 hb,cell_step h.2.2.2.1 hb,block_step h.2.2.2.2 hb⟩
theorem held4_others {A b:Nat} {x0 x1 x2 x3:Value} {r:Rep} {u:Value} {w w':World} (hne:A≠b) (h:w.cell? ⟨A,3,none⟩ = some x0/\w.cell? ⟨A,4,none⟩ = some x1/\w.cell? ⟨A,5,none⟩ = some x2/\w.cell? ⟨A,6,none⟩ = some x3/\w.heap[A]? = some (BR r u)) (ho:Others b w w') :
    w'.cell? ⟨A,3,none⟩ = some x0/\w'.cell? ⟨A,4,none⟩ = some x1/\w'.cell? ⟨A,5,none⟩ = some x2/\w'.cell? ⟨A,6,none⟩ = some x3/\w'.heap[A]? = some (BR r u):=by
  have h3:=ho A _ _ (by decide) hne h.2.2.2.2
  have e:w'.heap[A]? = w.heap[A]?:=h3.trans h.2.2.2.2.symm
  exact ⟨by simp only [World.cell?,e];exact h.1,by simp only [World.cell?,e];exact h.2.1,by simp only [World.cell?,e];exact h.2.2.1,by simp only [World.cell?,e];exact h.2.2.2.1,h3⟩
theorem len_opt (l:List (Int × ByteArray)) (b:Bool) (y:Int × ByteArray):(l ++ opt b y).length<=l.length + 1:=by
  unfold opt
  cases b <;> simp
theorem lens (r:Rep):([]:List (Int × ByteArray)).length<=1000/\(Re.f1 r).length<=1000/\(Re.f2 r).length<=1000/\(Re.f3 r).length<=1000/\(Re.f4 r).length<=4:=by
  have h1:(Re.f1 r).length<=0 + 1:=len_opt [] _ _
  have h2:(Re.f2 r).length<=(Re.f1 r).length + 1:=len_opt _ _ _
  have h3:(Re.f3 r).length<=(Re.f2 r).length + 1:=len_opt _ _ _
  have h4:(Re.f4 r).length<=(Re.f3 r).length + 1:=len_opt _ _ _
  simp only [List.length_nil]
  omega
theorem ef_take {l:List Ent} {k:Nat} {x:Ent} (h:l[k]? = some x):Re.ef (l.take (k + 1)) = Re.ef (l.take k) ++ opt true (5,Re.ebytes x):=by
  obtain ⟨hk,rfl⟩:=List.getElem?_eq_some_iff.1 h
  rw [List.take_succ_eq_append_getElem hk]
  unfold Re.ef opt
  rw [List.map_append]
  rfl
set_option maxHeartbeats 8000000 in
theorem fields_any (r : Rep) (u : Value) (w : World) (hr : Re.rightP r) (hv : AtW EE w u r.ents) :
    Calls Tryz.prog 141 #[VR r u] w fun e w'=>∃ v,e = .returned v/\FieldsAt w'.heap.size w' v (Re.fields r)/\Below w.heap.size w w':=by
  have HH:Hid (r.no<=9223372036854775807/\r.gen<=9223372036854775807):=by
    obtain ⟨-,⟨⟨-,h1⟩,-,h2⟩,-⟩:=hr
    exact ⟨by omega,by omega⟩
  have HN:Hid (r.e<=9223372036854775807/\r.n<=9223372036854775807):=by
    obtain ⟨⟨-,h1⟩,-,-,-,-,-,h2⟩:=hr
    exact ⟨by omega,by omega⟩
  have HT:Hid ((r.s<=9223372036854775807/\r.t<=9223372036854775807)/\r.k<=9223372036854775807/\r.l<=9223372036854775807):=by
    have h:=At.right_iff.1 hr.2.2.1
    unfold At.rightP at h
    exact ⟨⟨by omega,by omega⟩,by omega,by omega⟩
  have HM:Hid (r.ents.length<=64/\∀ x∈r.ents,(1<=x.2.1/\x.2.1<=1099511627776)/\Nm.ok x.1/\hokP x.2.2.1 x.2.2.2):=⟨hr.2.2.2.2.1.1,Re.entsP_mem hr.2.2.2.2.1.2 (Int.le_refl 0)⟩
  have hv0:=hv
  obtain ⟨ao,cap,rfl,hm,hx⟩:=hv0.open
  clear hv0 hv hm
  obtain ⟨z,hz⟩:∃ z,r.ents.length = z:=⟨_,rfl⟩
  have hz64:z<=64:=by rw [← hz];exact HM.out.1
  rw [hz] at ⊢
  have HZ:Hid (r.ents.length = z):=hz
  have HX:Hid (∀ i x,r.ents[i]? = some x->∃ b off,ao = some ⟨b,off,none⟩/\True/\b < w.heap.size/\∀ k u,(EE.cells x)[k]? = some u->w.cell? ⟨b,off + (i * EE.sz + k),none⟩ = some u):=hx
  clear hr hz hx
  have HF0:Hid (Fr w.heap.size w.heap.size (w.heap.size + 1) r (.slice ao z cap) [] w (.slice none 0 0) ((w.alloc (BR r (.slice ao z cap))).alloc (.cells #[.slice none 0 0] 71))):=by
    refine ⟨(Below.heap_alloc _ _ _ (by simp)).trans (heap_alloc_new w _),?_,World.ownsRow_nil _ _ _ _,((Below.refl _ _).alloc (Nat.le_refl _) _).alloc (by simp) _,by omega,Nat.le_refl _⟩
    have:=Boxed.new (w.alloc (BR r (.slice ao z cap))) 71 (.slice none 0 0)
    rw [World.size_alloc] at this
    exact this
  have HNE:Hid (w.heap.size≠w.heap.size + 1):=by show _≠_;omega
  go_enter Tryz.func141,Tryz.ntmps141
  go_wp2_with fail
  generalize (w.alloc (BR r (.slice ao z cap))).alloc (.cells #[.slice none 0 0] 71) = W at *
  generalize w.heap.size + 1 = b at *
  obtain ⟨A,hA⟩:∃ A,w.heap.size = A:=⟨_,rfl⟩
  rw [hA] at HF0 HNE HX ⊢
  have HAA:Hid (w.heap.size = A):=hA
  clear hA
  have HC0:Hid (W.cell? ⟨A,0,none⟩ = some (.int .i64 r.e)/\W.cell? ⟨A,0,none⟩ = some (.int .i64 r.e)/\W.heap[A]? = some (BR r (.slice ao z cap))):=⟨(ten_of HF0.out.1).1,(ten_of HF0.out.1).1,HF0.out.1⟩
  go_region_held3 (fun w'=>w'.cell? ⟨A,0,none⟩ = some (.int .i64 r.e)/\w'.cell? ⟨A,0,none⟩ = some (.int .i64 r.e)/\w'.heap[A]? = some (BR r (.slice ao z cap))) (first | exact HC0.out | assumption | exact held2_below (by assumption) (by assumption) | exact held2_others HNE.out (by assumption) (by assumption)) (first
    | (go_at_call 157;refine (num_s r.e 2 _ HN.out.1).mono ?_;rintro e x0 ⟨rfl,hb0⟩)
    | (go_at_call 156;refine (add_any (r.e != 0) 1 (Pl.numOut r.e 2) A b ([]) w (.slice none 0 0) _ (HF0.out.drew.step hb0).2 (lens r).1).mono ?_;rintro e w1 ⟨rfl,v1,hst1,ho1⟩))
  have HF1:Hid (Fr A A b r (.slice ao z cap) (Re.f1 r) w v1 w1):=⟨ho1 A _ _ (by decide) HNE.out (HF0.out.drew.step hb0).1,hst1⟩
  clear hst1 ho1 hb0 HC0 HF0
  go_wp2_with fail
  have HC1:Hid (w1.cell? ⟨A,1,none⟩ = some (.int .i64 r.no)/\w1.cell? ⟨A,2,none⟩ = some (.int .i64 r.gen)/\w1.heap[A]? = some (BR r (.slice ao z cap))):=⟨(ten_of HF1.out.1).2.1,(ten_of HF1.out.1).2.2.1,HF1.out.1⟩
  have hng1:∀ w',(binOp .neq 55 (VH r.no r.gen) (VH 0 0)).run Tryz.prog w' = .ok (.bool (hnz r.no r.gen)) w':=neq_hand _ _
  go_region_held3 (fun w'=>w'.cell? ⟨A,1,none⟩ = some (.int .i64 r.no)/\w'.cell? ⟨A,2,none⟩ = some (.int .i64 r.gen)/\w'.heap[A]? = some (BR r (.slice ao z cap))) (first | exact HC1.out | assumption | exact held2_below (by assumption) (by assumption) | exact held2_others HNE.out (by assumption) (by assumption)) (first
    | (go_at_call 158;refine (packHandle_any r.no r.gen _ HH.out.1 HH.out.2).mono ?_;rintro e x1 ⟨rfl,hb1⟩)
    | (go_at_call 156;refine (add_any (hnz r.no r.gen) 2 (hbytes r.no r.gen) A b (Re.f1 r) w v1 _ (HF1.out.drew.step hb1).2 (lens r).2.1).mono ?_;rintro e w2 ⟨rfl,v2,hst2,ho2⟩))
  have HF2:Hid (Fr A A b r (.slice ao z cap) (Re.f2 r) w v2 w2):=⟨ho2 A _ _ (by decide) HNE.out (HF1.out.drew.step hb1).1,hst2⟩
  clear hst2 ho2 hb1 HC1 HF1
  clear hng1
  go_wp2_with fail
  have HC2:Hid (w2.cell? ⟨A,3,none⟩ = some (.int .i64 r.k)/\w2.cell? ⟨A,4,none⟩ = some (.int .i64 r.l)/\w2.cell? ⟨A,5,none⟩ = some (.int .i64 r.s)/\w2.cell? ⟨A,6,none⟩ = some (.int .i64 r.t)/\w2.heap[A]? = some (BR r (.slice ao z cap))):=⟨(ten_of HF2.out.1).2.2.2.1,(ten_of HF2.out.1).2.2.2.2.1,(ten_of HF2.out.1).2.2.2.2.2.1,(ten_of HF2.out.1).2.2.2.2.2.2.1,HF2.out.1⟩
  have hng2:∀ w',(binOp .neq 48 (VA r.k r.l r.s r.t) (VA 0 0 0 0)).run Tryz.prog w' = .ok (.bool (Re.anz r.k r.l r.s r.t)) w':=neq_attr _ _ _ _
  go_region_held3 (fun w'=>w'.cell? ⟨A,3,none⟩ = some (.int .i64 r.k)/\w'.cell? ⟨A,4,none⟩ = some (.int .i64 r.l)/\w'.cell? ⟨A,5,none⟩ = some (.int .i64 r.s)/\w'.cell? ⟨A,6,none⟩ = some (.int .i64 r.t)/\w'.heap[A]? = some (BR r (.slice ao z cap))) (first | exact HC2.out | assumption | exact held4_below (by assumption) (by assumption) | exact held4_others HNE.out (by assumption) (by assumption)) (first
    | (go_at_call 159;refine (packAttr_any r.k r.l r.s r.t _ HT.out.1.1 HT.out.1.2 HT.out.2.1 HT.out.2.2).mono ?_;rintro e x2 ⟨rfl,hb2⟩)
    | (go_at_call 156;refine (add_any (Re.anz r.k r.l r.s r.t) 3 (At.packOut r.k r.l r.s r.t) A b (Re.f2 r) w v2 _ (HF2.out.drew.step hb2).2 (lens r).2.2.1).mono ?_;rintro e w3 ⟨rfl,v3,hst3,ho3⟩))
  have HF3:Hid (Fr A A b r (.slice ao z cap) (Re.f3 r) w v3 w3):=⟨ho3 A _ _ (by decide) HNE.out (HF2.out.drew.step hb2).1,hst3⟩
  clear hst3 ho3 hb2 HC2 HF2
  clear hng2
  have c3:w3.cell? ⟨A,7,none⟩ = some (.string r.data):=(ten_of HF3.out.1).2.2.2.2.2.2.2.1
  go_wp2_with fail
  refine (add_any (!r.data.toList.isEmpty) 4 r.data A b (Re.f3 r) w v3 _ HF3.out.2 (lens r).2.2.2.1).mono ?_
  rintro e w4 ⟨rfl,v4,hst4,ho4⟩
  have HF4:Hid (Fr A A b r (.slice ao z cap) (Re.f4 r) w v4 w4):=⟨ho4 A _ _ (by decide) HNE.out HF3.out.1,hst4⟩
  clear hst4 ho4 c3 HF3
  have c4:w4.cell? ⟨A,8,none⟩ = some (.slice ao z cap):=(ten_of HF4.out.1).2.2.2.2.2.2.2.2.1
  have HL4:Hid ((Re.f4 r).length<=4):=(lens r).2.2.2.2
  go_wp2_with fail
  clear c4
  go_loopw [44] (fun i wr=>∃ (k:Nat) (v:Value),k<=z/\i = .int .i64 k/\Hid (Fr A A b r (.slice ao z cap) (Re.f4 r ++ Re.ef (r.ents.take k)) w v wr)) (fun i _=>z - (intOf i).toNat)
  case atStart=>exact ⟨0,v4,Nat.zero_le _,rfl,by show Fr A A b r (.slice ao z cap) (Re.f4 r ++ Re.ef (r.ents.take 0)) w v4 w4;simpa [Re.ef] using HF4.out⟩
  case round =>
    obtain ⟨k,v,hk,rfl,HF⟩:=hrel
    by_cases hlt:k < z
    · obtain ⟨x, hxk⟩ : ∃ x, r.ents[k]? = some x := ⟨_, List.getElem?_eq_getElem (by rw [HZ.out]; exact hlt)⟩
      have HE:Hid (Re.ef (r.ents.take (k + 1)) = Re.ef (r.ents.take k) ++ opt true (5,Re.ebytes x)):=ef_take hxk
      have HXM:Hid ((1<=x.2.1/\x.2.1<=1099511627776)/\Nm.ok x.1/\hokP x.2.2.1 x.2.2.2):=HM.out.2 x (List.mem_of_getElem? hxk)
      have HLK:Hid ((Re.f4 r ++ Re.ef (r.ents.take k)).length<=1000):=by
        have h1:=HL4.out
        show (Re.f4 r ++ Re.ef (r.ents.take k)).length<=1000
        simp only [List.length_append,Re.ef,List.length_map,List.length_take]
        omega
      obtain ⟨bb,off,rfl,-,hB,hcx⟩:=HX.out k x hxk
      obtain ⟨c0,c1,c2,c3⟩:=four_at hcx HF.out.2.below hB
      clear hcx hxk
      have hlt':(k:Int) < (z:Int):=by omega
      go_wp2_with fail
      refine (packEntry_any x _ (by have:=HXM.out.1;omega) (by have:=HXM.out.2.2.1;omega) (by have:=HXM.out.2.2.2;omega) (by have:=Re.ok_size HXM.out.2.1;omega)).mono ?_
      rintro e x5 ⟨rfl,hb5⟩
      have HF5:Hid (Fr A A b r (.slice (some ⟨bb,off,none⟩) z cap) (Re.f4 r ++ Re.ef (r.ents.take k)) w v x5):=(HF.out.step ((Below.refl _ _).alloc (Nat.le_refl _) _)).step hb5
      clear hb5 c0 c1 c2 c3
      go_wp2_with fail
      refine (add_any true 5 (Re.ebytes x) A b _ w v _ HF5.out.2 HLK.out).mono ?_
      rintro e w6 ⟨rfl,v6,hst6,ho6⟩
      have HF6:Hid (Fr A A b r (.slice (some ⟨bb,off,none⟩) z cap) (Re.f4 r ++ Re.ef (r.ents.take (k + 1))) w v6 w6):=⟨ho6 A _ _ (by decide) HNE.out HF5.out.1,by rw [HE.out,← List.append_assoc];exact hst6⟩
      clear hst6 ho6
      go_wp2
      go_roundw
      case rel=>exact ⟨k + 1,v6,by omega,by go_num,HF6.out⟩
      case measure=>simp [intOf];omega
    · obtain rfl : k = z := by omega
      have HF5:Hid (Fr A A b r (.slice ao k cap) (Re.f5 r) w v wr):=by
        have:=HF.out
        rw [List.take_of_length_le (by rw [HZ.out];exact Nat.le_refl _)] at this
        exact this
      have HL5:Hid ((Re.f5 r).length<=1000):=by
        have h1:=HL4.out
        have h2:=HZ.out
        show (Re.f5 r).length<=1000
        simp only [Re.f5,List.length_append,Re.ef,List.length_map]
        omega
      clear HF HF4
      have hlt':¬ (k:Int) < (k:Int):=by omega
      go_wp2_with fail
      have HC5:Hid (wr.cell? ⟨A,9,none⟩ = some (.int .i64 r.n)/\wr.cell? ⟨A,9,none⟩ = some (.int .i64 r.n)/\wr.heap[A]? = some (BR r (.slice ao k cap))):=⟨(ten_of HF5.out.1).2.2.2.2.2.2.2.2.2,(ten_of HF5.out.1).2.2.2.2.2.2.2.2.2,HF5.out.1⟩
      go_region_held3 (fun w'=>w'.cell? ⟨A,9,none⟩ = some (.int .i64 r.n)/\w'.cell? ⟨A,9,none⟩ = some (.int .i64 r.n)/\w'.heap[A]? = some (BR r (.slice ao k cap))) (first | exact HC5.out | assumption | exact held2_below (by assumption) (by assumption) | exact held2_others HNE.out (by assumption) (by assumption)) (first
        | (go_at_call 157;refine (num_s r.n 6 _ HN.out.2).mono ?_;rintro e x5 ⟨rfl,hb5⟩)
        | (go_at_call 156;refine (add_any (r.n != 0) 6 (Pl.numOut r.n 6) A b (Re.f5 r) w v _ (HF5.out.drew.step hb5).2 HL5.out).mono ?_;rintro e w6 ⟨rfl,v6,hst6,ho6⟩))
      have HF6:Hid (Fr A A b r (.slice ao k cap) (Re.fields r) w v6 w6):=⟨ho6 A _ _ (by decide) HNE.out (HF5.out.drew.step hb5).1,hst6⟩
      clear hst6 ho6 hb5 HC5 HF5
      have c8:=HF6.out.2.box.cell
      go_wp2
      go_ret
      refine ⟨_,rfl,HF6.out.2.fields,?_⟩
      rw [HAA.out]
      exact HF6.out.2.below
end Go.Proofs.YtggoccfddnpelaaGreat.Ks.Rs
namespace Go.Proofs.YtggoccfddnpelaaGreat.Ks
open Go.ChangeShapes Go.WideShapes Go.ChangeAt Go.RowKit Go.Deep
set_option maxRecDepth 100000
/-- string(b) of a row of bytes of the call's own. -/
theorem conv_own {base:Nat} {W:World} {v:Value} {l:List UInt8} (h:W.ownsRow base 5 1 v l.length (Pl.bcells l)):(convert 101 9 v).run Tryz.prog W = .ok (.string (Pl.txt l)) W:=by
  rcases h.2 with ⟨rfl,hn⟩ | ⟨g,cap,cur,rfl,hbg,hg,hnc,hcm,hcs,htake⟩
  · obtain rfl := List.eq_nil_of_length_eq_zero hn
    exact run_convert_bytes_nil W 101 5 Tryz.underlying101 Tryz.underlying5 0 0 9 Tryz.underlying9
  · have := conv_bytes W g l.length cap (l.map fun b => (b.toNat : Int)) (by simp) (fun i hi => by
      have:=h.cells (g:=g) rfl i (.int .u8 ((l.map fun b=>(b.toNat:Int)).getD i 0)) (by simp [Pl.bcells,List.getD,hi])
      rw [WideShapes.add_plain,Nat.zero_add] at this
      exact this)
    rw [this,List.map_map]
    congr 3
    exact (List.map_congr_left fun b _=>by simp).trans (List.map_id l)
set_option maxHeartbeats 1000000 in
theorem pack_any (v : Value) (l : List (Int × ByteArray)) (w : World) (hv : FieldsAt w.heap.size w v l) (hE : (Pl.encs l).length ≤ 1099511627776) :
    Calls Tryz.prog 25 #[v] w fun e w'=>e = .returned (.tuple #[.string (Pl.packOut l),.int .i64 (Pl.packErr 1 l)])/\Below w.heap.size w w':=by
  rcases hv with ⟨ao,cap,rfl,rfl⟩ | ⟨b,off,cap,rfl,hB,hp,hlc,hm,hx⟩
  · have hcv : ∀ W : World, (convert 101 9 (.slice none 0 0)).run Tryz.prog W = .ok (.string (Pl.txt [])) W := fun W => conv_own (base := 0) (l := []) (World.ownsRow_nil _ _ _ _)
    go_enter Tryz.func25,Tryz.ntmps25
    go_wp2
    refine wp_loop_rounds 1 ?_
    rw [rounds_succ]
    go_wp2
    go_ret2
    exact ⟨rfl,Below.refl _ _⟩
  · unfold maxLen at hm
    obtain ⟨i0,hi,hz0,hz1,hz2⟩:=info_parts info5
    obtain ⟨n,hn⟩:∃ n,l.length = n:=⟨_,rfl⟩
    rw [hn] at hp hlc hx ⊢
    have HN:Hid (l.length = n):=hn
    have HX:Hid (∀ i,i < n->w.cell? ⟨b,off + i * 2,none⟩ = some (.int .i64 (l.getD i (0,.empty)).1)/\w.cell? ⟨b,off + i * 2 + 1,none⟩ = some (.string (l.getD i (0,.empty)).2)):=hx
    have HE:Hid (∀ k,(Pl.encs (l.take k)).length<=1099511627776):=fun k=>Nat.le_trans (Pl.encs_take_le l k) hE
    clear hn hx hE
    go_enter Tryz.func25,Tryz.ntmps25
    go_wp2
    go_loopw [4,5,10] (fun r t i wr=>∃ k:Nat,k<=n/\i = .int .i64 k/\t = .int .i64 (Pl.lastAt 1 l k)/\Pl.okTo 1 l k/\wr.ownsRow w.heap.size 5 1 r (Pl.encs (l.take k)).length (Pl.bcells (Pl.encs (l.take k)))/\Below w.heap.size w wr) (fun _ _ i _=>n - (intOf i).toNat)
    case atStart=>exact ⟨0,Nat.zero_le _,rfl,rfl,fun i hi=>absurd hi (Nat.not_lt_zero _),World.ownsRow_nil _ _ _ _,Below.refl _ _⟩
    case round =>
      obtain ⟨k,hk,rfl,rfl,hok,hown,hbl⟩:=hrel
      have HOK:Hid (Pl.okTo 1 l k):=hok
      clear hok
      have hsz:=hbl.size
      by_cases hlt:k < n
      · obtain ⟨c0, c1⟩ := HX.out k hlt
        rw [← hbl.cell (p:=⟨b,off + k * 2,none⟩) hB] at c0
        rw [← hbl.cell (p:=⟨b,off + k * 2 + 1,none⟩) hB] at c1
        generalize hf:l.getD k (0,.empty) = f at *
        have HF:Hid (l.getD k (0,.empty) = f):=hf
        clear hf
        obtain ⟨t,s⟩:=f
        generalize hla:Pl.lastAt 1 l k = la at *
        have HLA:Hid (Pl.lastAt 1 l k = la):=hla
        clear hla
        by_cases h1:t < 1
        · have H : Hid (Pl.packOut l = Pl.txt [] ∧ Pl.packErr 1 l = 1) := Pl.pack_bad (by rw [HN.out]; exact hlt) HOK.out HLA.out HF.out (by simp [Pl.badAt, h1]) (by decide)
          go_wp2
          go_ret2
          rw [H.out.1,H.out.2]
          exact ⟨rfl,hbl.alloc hsz _⟩
        by_cases h2:255 < t
        · have H : Hid (Pl.packOut l = Pl.txt [] ∧ Pl.packErr 1 l = 1) := Pl.pack_bad (by rw [HN.out]; exact hlt) HOK.out HLA.out HF.out (by simp [Pl.badAt, h2]) (by decide)
          go_wp2
          go_ret2
          rw [H.out.1,H.out.2]
          exact ⟨rfl,hbl.alloc hsz _⟩
        by_cases h3:65535 < s.size
        · have H : Hid (Pl.packOut l = Pl.txt [] ∧ Pl.packErr 1 l = 2) := Pl.pack_bad (by rw [HN.out]; exact hlt) HOK.out HLA.out HF.out (by simp [Pl.badAt, h1, h2, h3]) (by decide)
          go_wp2
          go_ret2
          rw [H.out.1,H.out.2]
          exact ⟨rfl,hbl.alloc hsz _⟩
        by_cases h4:t < la
        · have H : Hid (Pl.packOut l = Pl.txt [] ∧ Pl.packErr 1 l = 11) := Pl.pack_bad (by rw [HN.out]; exact hlt) HOK.out HLA.out HF.out (by simp [Pl.badAt, h1, h2, h3, h4]) (by decide)
          go_wp2
          go_ret2
          rw [H.out.1,H.out.2]
          exact ⟨rfl,hbl.alloc hsz _⟩
        have HB:Hid (Pl.okTo 1 l (k + 1)):=Pl.okTo_succ HOK.out (by rw [HLA.out,HF.out];simp [Pl.badAt,h1,h2,h3,h4])
        have HEN:Hid (Pl.encs (l.take (k + 1)) = Pl.encs (l.take k) ++ Pl.encOne (t,s)):=Pl.encs_take_succ (by rw [HN.out];exact hlt) HF.out
        have hE1:=HE.out k
        have HC:Hid (Pl.bcells (Pl.encOne (t,s)) = [.int .u8 t,.int .u8 ((s.size:Int) / 256),.int .u8 ((s.size:Int) % 256)] ++ byteCells s):=Pl.encOne_cells t s (by omega) (by omega) (by omega)
        generalize Pl.encs (l.take k) = E at *
        have hblk:((wr.alloc (.cells #[.int .i64 t,.string s] 70)).alloc (.cells #[.int .u8 t,.int .u8 ((s.size:Int) / 256),.int .u8 ((s.size:Int) % 256)] 5)).heap[wr.heap.size]? = some (.cells #[.int .i64 t,.string s] 70 (0,0)):=by
          rw [Below.heap_alloc _ _ _ (by simp)];exact heap_alloc_new wr _
        have HBK:Hid (((wr.alloc (.cells #[.int .i64 t,.string s] 70)).alloc (.cells #[.int .u8 t,.int .u8 ((s.size:Int) / 256),.int .u8 ((s.size:Int) % 256)] 5)).heap[wr.heap.size]? = some (.cells #[.int .i64 t,.string s] 70 (0,0))):=hblk
        clear hblk
        have hs3:(s.size:Int)<=65535:=by omega
        go_wp2_with (first
          | (at_builtin;refine wpList_append_own _ rfl (.tmp 33) (.tmp 46) 101 rfl w.heap.size 5 i0 (.int .u8 0) 1 1 Tryz.underlying101 hi hz0 hz1 hz2 rfl (by decide) _ _ _ rfl ((hown.alloc _).alloc _) ⟨wr.heap.size + 1,0,none⟩ 3 3 [.int .u8 t,.int .u8 ((s.size:Int) / 256),.int .u8 ((s.size:Int) % 256)] rfl rfl (App.three_new _ _ (by simp) _ _ _ _) (App.one3 _ _ _) (by unfold maxLen;omega) (by omega) (by first | omega | (simp;omega)) ?_;intro v1 w1 hown1 hgrow1 _;have hb1:Hid (w1.heap[wr.heap.size]? = some (.cells #[.int .i64 t,.string s] 70 (0,0))):=App.keep ((hown.alloc _).alloc _) hgrow1 HBK.out (by decide);have q0:=(App.cell_of_two hb1.out).1;have q1:=(App.cell_of_two hb1.out).2;have hz:=hgrow1.size)
          | (at_builtin;refine App.wpList_own _ rfl (.tmp 48) (.tmp 50) 101 9 rfl w.heap.size 5 i0 (.int .u8 0) 1 1 Tryz.underlying101 hi hz0 hz1 hz2 rfl _ _ _ rfl hown1 _ _ _ rfl (Src.ofString _ Tryz.underlying9 s) (by unfold maxLen;omega) (by omega) (by have:=hgrow1.size;simp at this;omega) ?_;intro v2 w2 hown2 hgrow2;have q2:=(App.cell_of_two (App.keep hown1 hgrow2 hb1.out (by decide))).1))
        go_roundw
        case rel =>
          refine ⟨k + 1,by omega,by go_num,by rw [Pl.lastAt_succ HF.out],HB.out,?_,?_⟩
          · rw [HEN.out, Pl.bcells_append, HC.out]
            have e:(E ++ Pl.encOne (t,s)).length = E.length + 3 + s.size:=by rw [List.length_append,show (Pl.encOne (t,s)).length = 3 + s.size from Pl.encOne_length (t,s)];omega
            rw [e]
            simpa using hown2
          · exact (((hbl.alloc hsz _).alloc (by simp;omega) _).grown hgrow1 (by simp;omega) (fun g hg=>(hown.lt g hg).1)).grown hgrow2 (by simp at hz;omega) (fun g hg=>(hown1.lt g hg).1)
        case measure=>simp [intOf];omega
      · obtain rfl : k = n := by omega
        have H:Hid (Pl.packOut l = Pl.txt (Pl.encs l)/\Pl.packErr 1 l = 0):=Pl.pack_fine (by rw [HN.out];exact HOK.out)
        rw [List.take_of_length_le (by rw [HN.out];exact Nat.le_refl _)] at hown
        have hcv:=conv_own hown
        go_wp2
        go_ret2
        rw [H.out.1,H.out.2]
        exact ⟨rfl,hbl⟩
end Go.Proofs.YtggoccfddnpelaaGreat.Ks
namespace Go.Proofs.YtggoccfddnpelaaGreat.Ks.Rs
open Go.ChangeShapes Go.WideShapes Go.ChangeAt Go.RowKit Go.Deep
set_option maxRecDepth 100000
open Go.Proofs.YtggoccfddnpelaaGreat.Ks.Ak
theorem Re.packs {r:Rep} (h:Re.rightP r):Pl.packOut (Re.fields r) = Re.packOut r/\Re.packErr r = 0:=by
  have hu:=Re.up_fields h
  have hr:=Re.right_iff.2 h
  exact ⟨by rw [Pl.packOut,hu.1,if_pos rfl,Re.packOut,if_pos hr],by rw [Re.packErr,if_pos hr]⟩
set_option maxHeartbeats 2000000 in
theorem repPack_any (r:Rep) (u:Value) (w:World) (hv:AtW EE w u r.ents) (hs:∀ x∈r.ents,x.1.size<=maxLen):Calls Tryz.prog 104 #[VR r u] w fun e w'=>e = .returned (.tuple #[.string (Re.packOut r),.int .i64 (Re.packErr r)])/\Below w.heap.size w w':=by
  obtain ⟨ao,cap,rfl,-,-⟩:=(show AtW EE w u r.ents from hv).open
  have HV:Hid (AtW EE w (.slice ao r.ents.length cap) r.ents):=hv
  have HS:Hid (∀ x∈r.ents,x.1.size<=maxLen):=hs
  obtain ⟨z,hz⟩:∃ z,r.ents.length = z:=⟨_,rfl⟩
  rw [hz] at HV ⊢
  clear hv hs hz
  by_cases hr:Re.rightP r
  · have HR : Hid (Re.rightP r) := hr
    have HC:Hid ((if Re.right r then (0:Int) else 4) = 0):=by show (if Re.right r then (0:Int) else 4) = 0;rw [if_pos (Re.right_iff.2 hr)]
    have HO:Hid (Pl.packOut (Re.fields r) = Re.packOut r/\Re.packErr r = 0):=Re.packs hr
    have HE:Hid ((Pl.encs (Re.fields r)).length<=1099511627776):=Nat.le_trans (Re.up_fields hr).2.2 (by omega)
    clear hr
    go_enter Tryz.func104,Tryz.ntmps104
    go_wp2_with fail
    refine (check_is r _ _ 0 (HV.out.al _) HS.out HC).mono ?_
    rintro e w1 ⟨rfl,hb1⟩
    have HB1:Hid (Below w.heap.size w w1):=((Below.refl _ _).alloc (Nat.le_refl _) _).trans (hb1.mono (by simp))
    have HV1:Hid (AtW EE w1 (.slice ao z cap) r.ents):=HV.out.up HB1.out
    obtain ⟨c0,c1,c2,c3,c4,c5,c6,c7,c8,c9⟩:=ten_of (block_step (heap_alloc_new w (BR r (.slice ao z cap))) hb1)
    clear hb1
    go_wp2_with fail
    refine (fields_any r _ _ HR.out HV1.out).mono ?_
    rintro e w2 ⟨v2,rfl,hf2,hb2⟩
    have HB2:Hid (Below w.heap.size w w2):=HB1.out.trans (hb2.mono HB1.out.size)
    have HF2:Hid (FieldsAt w2.heap.size w2 v2 (Re.fields r)):=hf2
    clear hb2 hf2 c0 c1 c2 c3 c4 c5 c6 c7 c8 c9
    go_wp2_with fail
    refine (pack_any _ _ _ HF2.out HE.out).mono ?_
    rintro e w3 ⟨rfl,hb3⟩
    rw [HO.out.1]
    go_wp2
    go_ret2
    rw [HO.out.2]
    exact ⟨rfl,HB2.out.trans (hb3.mono HB2.out.size)⟩
  · have hw := Re.wrong_iff.2 hr
    have HC:Hid ((if Re.right r then (0:Int) else 4) = 4):=by show (if Re.right r then (0:Int) else 4) = 4;rw [hw];rfl
    have HO:Hid (Re.packOut r = ⟨#[]⟩/\Re.packErr r = 4):=⟨by simp [Re.packOut,hw],by simp [Re.packErr,hw]⟩
    clear hr hw
    go_enter Tryz.func104,Tryz.ntmps104
    go_wp2_with fail
    refine (check_is r _ _ 4 (HV.out.al _) HS.out HC).mono ?_
    rintro e w1 ⟨rfl,hb1⟩
    have HB1:Hid (Below w.heap.size w w1):=((Below.refl _ _).alloc (Nat.le_refl _) _).trans (hb1.mono (by simp))
    go_wp2
    go_ret2
    rw [HO.out.1,HO.out.2]
    exact ⟨rfl,HB1.out⟩
end Go.Proofs.YtggoccfddnpelaaGreat.Ks.Rs
