/- BRead, NRd, BCut, as one. -/
import Derived.Lib.BufferWrite
import Derived.Maps.AppendAt
import Derived.Test.YtneojimodomohaaGreatV27
set_option maxHeartbeats 8000000
set_option maxRecDepth 100000
namespace Go.Proofs.YtneojimodomohaaGreat.Bs
open Go.RowKit Go.Shelf Go.Deep
attribute [local go_sem] Oper.semAt_some
theorem info5:(Tryz.prog.info? 5).map (fun i=>(i.zero,i.size,i.bytes)) = some (some (.int .u8 0),1,1):=by kernel_rfl
theorem wpOp_copy {P:Program} {ops:Array Oper} {Q:Exit->Act->World->Prop} {i:Nat} {o:Oper} {K:Act->World->Prop} {a:Act} {w w':World} {v:Value} (hi:ops[i]? = some o) (hg:o.guard = none) (d x:Operand) (dT sT:TypeId)
  (hop:o.op = Op.call { callee:=Callee.builtin Builtin.copy,args:=#[d,x],argTypes:=#[dT,sT] }) (dv xv:Value) (hd:a.eval d = dv) (hx:a.eval x = xv) (hrun:(Builtin.copy_ #[dT,sT] o.type #[dv,xv]).run P w = .ok v w') (hK:K (a.put o.dst v) w'):wpOp P ops Q i K a w:=by
 unfold wpOp;rw [hi];simp only;rw [if_pos (by simp [Region.wanted,hg])];left;unfold Oper.wp execOp;simp only [hop,resolve,invoke,builtin,Sem.run_bind,Sem.run_pure,Result.andThen_ok,List.map_toArray,List.map_cons,List.map_nil,hd,hx,hrun];exact hK
theorem made_zero (m:Nat):madeCells #[Value.int .u8 0] m = (Lib.byteCells (List.replicate m 0)).toArray:=by
 apply Array.ext'
 simp [madeCells,Lib.byteCells,Nat.mod_one];apply List.ext_getElem <;> simp
theorem conv_bytes (W:World) (b len cap:Nat) (xs:List UInt8) (hlen:xs.length = len) (hb:W.heap[b]? = some (.cells (Lib.byteCells xs).toArray 5 (0,0))) :
  (convert 184 9 (.slice (some ⟨b,0,none⟩) len cap)).run Tryz.prog W = .ok (.string (Bl.txt xs)) W:=by
 have h:=run_convert_bytes_arg W 184 5 Tryz.underlying184 Tryz.underlying5 b 0 len cap (xs.map fun c=>(c.toNat:Int)) (by simpa using hlen) (fun i hi=>by
  have hi':i < xs.length:=by omega
  simp [World.cell?,hb,Lib.byteCells,List.getD,hi']) 9 Tryz.underlying9
 rw [h,show strOfNums (xs.map fun c=>(c.toNat:Int)) = Bl.txt ((xs.map fun c=>(c.toNat:Int)).map fun n=>UInt8.ofNat n.toNat) from rfl];simp [Function.comp_def]
theorem cellsf_own {β:Type} (B:Nat) (c:β->Array Value) (t:TypeId):Own (fun (s:β) W=>W.heap[B]? = some (.cells (c s) t (0,0))):=fun s X Y row hs hg hrow =>
 (hg.block B (qL hs) (fun e'=>by obtain ⟨o,ho,hc⟩:=hrow B e'.symm;rw [hs] at ho;cases ho;cases hc)).trans hs
theorem read_ok (v:Value) (l:List Bl.R) (size at_ n:Int) (m:Nat) (w:World) (hv:FieldsAt w.heap.size w v l) (hok:okFields l) (hr:Bl.right (-1) l) (h0:0<=at_) (h1:at_ < size) (h2:size<=1048576) (h3:0<=n) (h4:n<=512) (hm:(m:Int) = min n (size - at_)) :
  Calls Tryz.prog 97 #[v,.int .i64 size,.int .i64 at_,.int .i64 n] w fun e w'=>e = .returned (.tuple #[.string (Bl.txt (Bl.over at_ m l)),.int .i64 0])/\Below w.heap.size w w':=by
 have HE:Hid (Bl.err l = 0):=by show Bl.err l = 0;unfold Bl.err;rw [if_pos hr]
 have HV:Hid (FieldsAt w.heap.size w v l):=hv;obtain ⟨ao,cap,rfl,hml,_⟩:=hv.open;clear hv;have hmn:(if size - at_ < n then size - at_ else n) = (m:Int):=by split <;> omega
 have hm5:m<=512:=by omega
 have hme:at_ + (m:Int)<=size:=by omega
 clear hm;have hmk:=run_make_row' (P:=Tryz.prog) 184 5 (.int .u8 0) 1 Tryz.underlying184 info5 rfl .i64 .i64 m (by omega) (by omega);have HF1:Hid (FieldsAt w.heap.size (w.alloc (.cells #[.int .i64 at_] 3)) (.slice ao l.length cap) l):=HV.out.below (qG _ _) (Nat.le_refl _);have g1:¬ size < 0:=by omega
 have g2:¬ 1048576 < size:=by omega
 have g3:¬ at_ < 0:=by omega
 have g4:¬ n < 0:=by omega
 have g5:¬ 512 < n:=by omega
 have g6:¬ size<=at_:=by omega
 refine (callsIn_wide (n:=3)).1 ?_;refine callsIn_of_wp_marks Tryz.func97 rfl trivial ?_ rfl;simp only [Tryz.ntmps97,List.size_toArray,List.length_cons,List.length_nil,Nat.reduceAdd,Nat.reduceSub,Array.replicate_succ,Array.replicate_zero,List.push_toArray,List.append_toArray,List.nil_append,List.cons_append];refine wpIn_wide.2 ?_;go_wp2_with fail;refine (check_any _ l _ (HF1.out.mono (by simp)) hok).mono ?_;rintro e w1 ⟨rfl,hb1⟩;rw [HE.out];have cA:=(hb1.cell (p:=⟨w.heap.size,0,none⟩) (by simp)).trans (Boxed.new w 3 (.int .i64 at_)).cell;have hlA:w.heap.size < w1.heap.size:=by have:=hb1.size;simp at this;omega
 go_wp2_with fail;refine (within_any _ _ _ _ ⟨_,_,_,rfl⟩).mono ?_;rintro e w2 ⟨rfl,rfl⟩;go_wp2;have hl0:l.length<=1048577:=by
  have h:(l.length:Int)<=1048576 - -1:=Bl.right_length hr (by decide);omega
 have hBA:Below w.heap.size w w1:=(qG _ _).trans (hb1.mono (by simp));have bA1:Boxed w1 w.heap.size 3 (.int .i64 at_):=(hb1.block _ (by simp)).trans (Boxed.new w 3 (.int .i64 at_));obtain ⟨lv,hlv⟩:=qE (Value.slice ao l.length cap);rw [hlv] at HV;rw [hlv];clear hb1 HF1 cA;have b3:=three_new ((w1.alloc (.cells (madeCells #[.int .u8 0] m) 5)).alloc (.cells #[.slice (some ⟨w1.heap.size,0,none⟩) m m] 184)) lv at_ (at_ + (m:Int));have bG:(((((w1.alloc (.cells (madeCells #[.int .u8 0] m) 5)).alloc (.cells #[.slice (some ⟨w1.heap.size,0,none⟩) m m] 184)).alloc (.cells #[lv] 56)).alloc (.cells #[.int .i64 at_] 3)).alloc (.cells #[.int .i64 (at_ + (m:Int))] 3)).heap[w1.heap.size]? = some (.cells (madeCells #[.int .u8 0] m) 5 (0,0)):=by
  refine (Below.heap_alloc _ _ _ ?_).trans ((Below.heap_alloc _ _ _ ?_).trans ((Below.heap_alloc _ _ _ ?_).trans ((Below.heap_alloc _ _ _ ?_).trans (heap_alloc_new _ _))))
  all_goals (simp;try omega)
 have bB:=(((Boxed.new (w1.alloc (.cells (madeCells #[.int .u8 0] m) 5)) 184 (.slice (some ⟨w1.heap.size,0,none⟩) m m)).alloc (.cells #[lv] 56)).alloc (.cells #[.int .i64 at_] 3)).alloc (.cells #[.int .i64 (at_ + (m:Int))] 3);have bA:=((((bA1.alloc (.cells (madeCells #[.int .u8 0] m) 5)).alloc (.cells #[.slice (some ⟨w1.heap.size,0,none⟩) m m] 184)).alloc (.cells #[lv] 56)).alloc (.cells #[.int .i64 at_] 3)).alloc (.cells #[.int .i64 (at_ + (m:Int))] 3);have hs1:=hBA.size;have hB0:Below w.heap.size w (((((w1.alloc (.cells (madeCells #[.int .u8 0] m) 5)).alloc (.cells #[.slice (some ⟨w1.heap.size,0,none⟩) m m] 184)).alloc (.cells #[lv] 56)).alloc (.cells #[.int .i64 at_] 3)).alloc (.cells #[.int .i64 (at_ + (m:Int))] 3)):=((((hBA.alloc hs1 _).alloc (by simp;omega) _).alloc (by simp;omega) _).alloc (by simp;omega) _).alloc (by simp;omega) _;have hsz:(((((w1.alloc (.cells (madeCells #[.int .u8 0] m) 5)).alloc (.cells #[.slice (some ⟨w1.heap.size,0,none⟩) m m] 184)).alloc (.cells #[lv] 56)).alloc (.cells #[.int .i64 at_] 3)).alloc (.cells #[.int .i64 (at_ + (m:Int))] 3)).heap.size = w1.heap.size + 5:=by simp
 simp only [World.size_alloc] at b3 bB;obtain ⟨W0,hW0⟩:=qE (((((w1.alloc (.cells (madeCells #[.int .u8 0] m) 5)).alloc (.cells #[.slice (some ⟨w1.heap.size,0,none⟩) m m] 184)).alloc (.cells #[lv] 56)).alloc (.cells #[.int .i64 at_] 3)).alloc (.cells #[.int .i64 (at_ + (m:Int))] 3));rw [hW0] at b3 bG bB bA hB0 hsz ⊢;clear hW0 bA1;obtain ⟨A,hA⟩:=qE w.heap.size;obtain ⟨G,hG⟩:=qE w1.heap.size;rw [hA] at bA hB0 HV hlA;rw [hG] at b3 bG bB hsz hlA;rw [hA,hG];have hF0:FieldsAt A W0 lv l:=HV.out.below hB0 (Nat.le_refl _);have hmade:madeCells #[Value.int .u8 0] m = (Lib.byteCells (Bl.over at_ m [])).toArray:=by
  rw [Bl.over_nil];exact made_zero m
 rw [hmade] at bG;refine (wpIn_wide (n:=3)).1 ?_;refine wpIn_rangeFunc_ownH rfl (by omega) (gf:=187) (lb:=#[.pointer (some ⟨G + 1 + 1,0,none⟩),.pointer (some ⟨G + 1 + 1 + 1,0,none⟩),.pointer (some ⟨G + 1 + 1 + 1 + 1,0,none⟩)]) rfl trivial (enters_of Tryz.func187 (by kernel_rfl) rfl)
  (iter_stops (3 - 1) (by omega) (G + 1 + 1) A lv l at_ (at_ + (m:Int)) hr W0 (by omega) (by omega) hF0 b3) (fun h k=>keptK_t h k) (keptK_b (by omega) (by omega)) (Below.refl _ _) (fun _=>rfl)
  (fun pre W=>(((W.heap[G]? = some (.cells (Lib.byteCells (Bl.over at_ m (pre.map (·.1)))).toArray 5 (0,0))/\Boxed W (G + 1) 184 (.slice (some ⟨G,0,none⟩) m m))/\Boxed W A 3 (.int .i64 at_))/\Three W (G + 1 + 1) lv at_ (at_ + (m:Int)))/\Below A w W)
  (fun _ _ _=>False)
  (OwnFrom.and (OwnFrom.and (OwnFrom.and (OwnFrom.and (Own.from (cellsf_own G (fun pre:List (In at_ (at_ + (m:Int)))=>(Lib.byteCells (Bl.over at_ m (pre.map (·.1)))).toArray) 5) _) (Own.from (boxed_own _ _ _) _)) (Own.from (boxed_own _ _ _) _)) (Own.from (three_own _ _ _ _) _)) (ownFrom_below (by omega) (by omega)))
  (fun _ _ _ _ _ hs _ _=>hs)
  ⟨⟨⟨⟨bG,bB⟩,bA⟩,b3⟩,hB0⟩
  (fun x a' W=>∃ Bx,W.heap[Bx]? = some (.cells #[.int .i64 x.1.1,.string x.1.2] 60 (0,0))/\a' = { tmps:=#[lv,.int .i64 size,.int .i64 at_,.int .i64 n,undef,undef,.pointer (some ⟨A,0,none⟩),undef,.string ⟨#[]⟩,.int .i64 0,.pointer (some ⟨G + 1,0,none⟩),.pointer (some ⟨Bx,0,none⟩),.bool false,lv,.int .i64 0,.bool false,.bool (decide (size < 0) || decide (1048576 < size) || decide (at_ < 0) || decide (n < 0) || decide (512 < n)),.int .i64 size,.bool (decide (size < 0)),.bool (decide (size < 0)),.int .i64 size,.bool (decide (1048576 < size)),.bool (decide (size < 0) || decide (1048576 < size)),.bool (decide (size < 0) || decide (1048576 < size)),.int .i64 at_,.bool (decide (at_ < 0)),.bool (decide (size < 0) || decide (1048576 < size) || decide (at_ < 0)),.bool (decide (size < 0) || decide (1048576 < size) || decide (at_ < 0)),.int .i64 n,.bool (decide (n < 0)),.bool (decide (size < 0) || decide (1048576 < size) || decide (at_ < 0) || decide (n < 0)),.bool (decide (size < 0) || decide (1048576 < size) || decide (at_ < 0) || decide (n < 0)),.int .i64 n,.bool (decide (512 < n)),.bool (decide (size < 0) || decide (1048576 < size) || decide (at_ < 0) || decide (n < 0) || decide (512 < n)),.bool (decide (size<=at_)),.int .i64 at_,.int .i64 size,.bool (decide (size<=at_)),.int .i64 n,.int .i64 size,.int .i64 at_,.int .i64 (size - at_),.int .i64 m,.slice (some ⟨G,0,none⟩) m m,lv,.int .i64 at_,.int .i64 at_,.slice (some ⟨G,0,none⟩) m m,.int .i64 m,.int .i64 (at_ + (m:Int)),.func (.func 187) #[] #[.pointer (some ⟨G + 1 + 1,0,none⟩),.pointer (some ⟨G + 1 + 1 + 1,0,none⟩),.pointer (some ⟨G + 1 + 1 + 1 + 1,0,none⟩)],.agg #[.int .i64 x.1.1,.string x.1.2],undef,undef,undef,undef,undef,undef,undef,undef,undef,undef,undef],defers:=[] })
  (fun x a' _ X Y row hs hg hr=>by obtain ⟨Bx,h1,h2⟩:=hs;exact ⟨Bx,cells_own (β:=Unit) Bx _ _ () X Y row h1 hg (fun r e=>(hr r e).2),h2⟩)
  ?assign ?body ?done ?stop
 case assign =>
  rintro lp pre x W K ⟨⟨⟨⟨aG,aB⟩,aA⟩,t3⟩,hB⟩ hK;simp only [encs]
  gi_wp2
  refine hK _ _ ((KeepsOthers.alloc _ _).from _) (Kept.still (World.grownBy_alloc _ _ _)) ⟨⟨⟨⟨(Below.heap_alloc _ _ _ (qL aG)).trans aG,aB.alloc _⟩,aA.alloc _⟩,t3.alloc _⟩,hB.alloc (by have:=hB.size;omega) _⟩ ⟨W.heap.size,heap_alloc_new _ _,rfl⟩
 case body =>
  rintro lp pre x a' W _ _ ⟨⟨⟨⟨aG,aB⟩,aA⟩,t3⟩,hB⟩ ⟨Bx,hBx,rfl⟩ hlt;have hsW:=hB.size;have cB:=aB.cell;have cA:=aA.cell;obtain ⟨x0,x1⟩:=two_of hBx;have hx:=x.2;obtain ⟨⟨xa,xs⟩,hxp⟩:=x;simp only at x0 x1 hx;unfold Bl.rend at hx;simp only at hx;obtain ⟨hx1,hx2,hx3⟩:=hx;obtain ⟨o,ho⟩:=Int.eq_ofNat_of_zero_le (show 0<=xa - at_ by omega);have hmx:Tryz.prog.follows .mixedOrders = true:=by kernel_rfl
  have ho1:o<=m:=by omega
  have ho2:(o:Int)<=(m:Int):=by omega
  have how:IntKind.i64.wrap (o:Int) = (o:Int):=wrap_small o (by omega);have hne:¬ m = o:=by omega
  have hlen:(Lib.byteCells (Bl.over at_ m (pre.map (·.1)))).toArray.size = m:=by simp [Lib.byteCells,Bl.over_length]
  have hcp:=Lib.run_copy_row_string (P:=Tryz.prog) W.drew 184 9 3 5 G o (m - o) (m - o) xs _ 5 Tryz.underlying184 (by kernel_rfl) aG (by omega) (by rw [hlen];omega);have hS:W.drew.cell? ⟨G + 1,0,none⟩ = some (.slice (some ⟨G,0,none⟩) m m)/\W.drew.cell? ⟨A,0,none⟩ = some (.int .i64 at_)/\W.drew.cell? ⟨Bx,0,none⟩ = some (.int .i64 xa)/\W.drew.cell? ⟨Bx,1,none⟩ = some (.string xs):=⟨cB,cA,x0,x1⟩
  gi_wp2
  refine wpIn_region_any hmx ?_;refine any_round lp _ (no_defer (by kernel_rfl)) ?_ _ _ _ _ ?_
  ·rintro ⟨_,_,h⟩;exact h
  refine wpAny_of_held (S:=fun w'=>w'.cell? ⟨G + 1,0,none⟩ = some (.slice (some ⟨G,0,none⟩) m m)/\w'.cell? ⟨A,0,none⟩ = some (.int .i64 at_)/\w'.cell? ⟨Bx,0,none⟩ = some (.int .i64 xa)/\w'.cell? ⟨Bx,1,none⟩ = some (.string xs)) _ _ _ _ ?_;refine wpAnyH_take (i:=1) (v:=.pointer (some ⟨Bx,0,none⟩)) rfl (by kernel_rfl) (by kernel_rfl) (by kernel_rfl) (fun _ _ _ h=>h) (Or.inl ⟨by rfl,?_⟩) hS ?_
  ·rintro w' ⟨s0,s1,s2,s3⟩
   go_simp
  refine wpAnyH_take (i:=6) (v:=.pointer (some ⟨Bx,1,none⟩)) rfl (by kernel_rfl) (by kernel_rfl) (by kernel_rfl) (fun _ _ _ h=>h) (Or.inl ⟨by rfl,?_⟩) hS ?_
  ·rintro w' ⟨s0,s1,s2,s3⟩
   go_simp
  refine wpAnyH_take (i:=0) (v:=.slice (some ⟨G,0,none⟩) m m) rfl (by kernel_rfl) (by kernel_rfl) (by kernel_rfl) (fun _ _ _ h=>h) (Or.inl ⟨by rfl,?_⟩) hS ?_
  ·rintro w' ⟨s0,s1,s2,s3⟩
   go_simp
  refine wpAnyH_take (i:=2) (v:=.int .i64 xa) rfl (by kernel_rfl) (by kernel_rfl) (by kernel_rfl) (fun _ _ _ h=>h) (Or.inl ⟨by rfl,?_⟩) hS ?_
  ·rintro w' ⟨s0,s1,s2,s3⟩
   go_simp
  refine wpAnyH_take (i:=3) (v:=.int .i64 at_) rfl (by kernel_rfl) (by kernel_rfl) (by kernel_rfl) (fun _ _ _ h=>h) (Or.inl ⟨by rfl,?_⟩) hS ?_
  ·rintro w' ⟨s0,s1,s2,s3⟩
   go_simp
  refine wpAnyH_take (i:=4) (v:=.int .i64 o) rfl (by kernel_rfl) (by kernel_rfl) (by kernel_rfl) (fun _ _ _ h=>h) (Or.inl ⟨by rfl,?_⟩) hS ?_
  ·rintro w' ⟨s0,s1,s2,s3⟩
   go_simp
  refine wpAnyH_take (i:=5) (v:=.slice (some ⟨G,o,none⟩) (m - o) (m - o)) rfl (by kernel_rfl) (by kernel_rfl) (by kernel_rfl) (fun _ _ _ h=>h) (Or.inl ⟨by rfl,?_⟩) hS ?_
  ·rintro w' ⟨s0,s1,s2,s3⟩
   go_simp
  refine wpAnyH_take (i:=7) (v:=.string xs) rfl (by kernel_rfl) (by kernel_rfl) (by kernel_rfl) (fun _ _ _ h=>h) (Or.inl ⟨by rfl,?_⟩) hS ?_
  ·rintro w' ⟨s0,s1,s2,s3⟩
   go_simp
  refine wpAnyH_all (rs:=[8]) (by kernel_rfl) (by simp) ?_;intro i hi;obtain rfl:i = 8:=by simpa using hi
  refine wpOp_copy (w':=W.drew.setRow G (List.take o (Lib.byteCells (Bl.over at_ m (pre.map (·.1)))).toArray.toList ++ Lib.byteCells xs.data.toList ++ List.drop (o + xs.size) (Lib.byteCells (Bl.over at_ m (pre.map (·.1)))).toArray.toList).toArray) (v:=goInt xs.size) rfl rfl (.tmp 58) (.tmp 60) 184 9 rfl (.slice (some ⟨G,o,none⟩) (m - o) (m - o)) (.string xs) (by simp [Act.eval,Act.put]) (by simp [Act.eval,Act.put]) hcp ?_;have hGA:¬ A = G:=by omega
  have hGB:¬ Bx = G:=fun e=>by rw [e,aG] at hBx;simp at hBx
  obtain ⟨arr,harr⟩:=qE ((List.take o (Lib.byteCells (Bl.over at_ m (pre.map (·.1)))).toArray.toList ++ Lib.byteCells xs.data.toList ++ List.drop (o + xs.size) (Lib.byteCells (Bl.over at_ m (pre.map (·.1)))).toArray.toList).toArray);rw [harr];have hgr:W.grownBy (W.drew.setRow G arr) (some G):=⟨rfl,rfl,rfl,by simp,fun k _ hk=>setRow_other W.drew G k _ (fun e=>hk (by rw [e]))⟩;have hBn:Below A W (W.drew.setRow G arr):=(Below.refl A W).grown hgr (by have:=hB.size;omega) (fun k e=>by cases e;omega);have nG:∀ k,¬ k = G->some k≠some G:=fun k hk e=>hk (by cases e;rfl)
  have t3':Three (W.drew.setRow G arr) (G + 1 + 1) lv at_ (at_ + (m:Int)):=⟨t3.1.kept hgr (nG _ (by omega)),t3.2.1.kept hgr (nG _ (by omega)),t3.2.2.kept hgr (nG _ (by omega))⟩;have hnew:(W.drew.setRow G arr).heap[G]? = some (.cells (Lib.byteCells (Bl.over at_ m ((pre ++ [(⟨(xa,xs),hxp⟩:In at_ (at_ + (m:Int)))]).map (fun y=>y.1)))).toArray 5 (0,0)):=by
   refine (setRow_heap W.drew G _ _ 5 _ aG).trans ?_;rw [← harr,List.map_append,List.map_cons,List.map_nil,Bl.over_snoc at_ m _ (xa,xs) o (by simp only;omega) (by simp only;omega)];simp [Lib.byteCells,List.map_take,List.map_drop]
  refine ⟨⟨(hgr.cell cB (nG (G + 1) (by omega))),(hgr.cell cA (nG _ hGA)),(hgr.cell x0 (nG _ hGB)),(hgr.cell x1 (nG _ hGB))⟩,wpAnyH_done (by kernel_rfl) ?_ _⟩;exact ⟨(KeepsOthers.of_grownBy hgr (fun j o ej hj=>by cases ej;rw [aG] at hj;cases hj;rfl)).from _,t3.kept t3' hBn,⟨⟨⟨hnew,aB.kept hgr (nG _ (by omega))⟩,aA.kept hgr (nG _ hGA)⟩,t3'⟩,hB.trans hBn⟩
 case done =>
  rintro D ys W hD hys ⟨⟨⟨⟨aG,aB⟩,aA⟩,t3⟩,hB⟩ hK;rw [hys,Bl.over_within] at aG;have cB:=aB.cell;have hcv:=conv_bytes W G m m (Bl.over at_ m l) (Bl.over_length _ _ _) aG;go_wp2;refine ⟨by simp,.inl ⟨_,_,rfl,run_takeDeferred hK,?_⟩⟩;refine ⟨.tuple #[.string (Bl.txt (Bl.over at_ m l)),.int .i64 0],by simp [results,Tryz.results97,go_sem],rfl,?_⟩;rw [hA];exact hB.trans (belowK_b (w:=W0) (by omega) W D _ (.deferred none) (by omega) hK rfl rfl)
 case stop =>
  rintro D c pre W _ _ h _;exact h.elim
theorem read_any (v:Value) (l:List Bl.R) (size at_ n:Int) (w:World) (hv:FieldsAt w.heap.size w v l) (hok:okFields l) :
  Calls Tryz.prog 97 #[v,.int .i64 size,.int .i64 at_,.int .i64 n] w fun e w'=>e = .returned (.tuple #[.string (Bl.rOut l size at_ n),.int .i64 (Bl.rErr l size at_ n)])/\Bw w w':=by
 have HV:Hid _:=hv;have HF1:Hid (FieldsAt w.heap.size (w.alloc (.cells #[.int .i64 at_] 3)) v l):=hv.below (qG _ _) (Nat.le_refl _);obtain ⟨ao,cap,rfl,hm,_⟩:=hv.open;clear hv;have hbox:=(Boxed.new w 3 (.int .i64 at_))
 by_cases hr:Bl.right (-1) l
 ·have HE:Hid (Bl.err l = 0):=by show Bl.err l = 0;unfold Bl.err;rw [if_pos hr]
  by_cases hb:size < 0∨1048576 < size∨at_ < 0∨n < 0∨512 < n
  ·have H:Hid (Bl.rErr l size at_ n = 1):=by show Bl.rErr l size at_ n = 1;unfold Bl.rErr;rw [if_pos hr,if_pos hb]
   have HO:Hid (Bl.rOut l size at_ n = Bl.txt []):=by show Bl.rOut l size at_ n = _;unfold Bl.rOut;rw [H.out,if_neg (by decide)]
   rw [H.out,HO.out];have hbb:(decide (size < 0) || decide (1048576 < size) || decide (at_ < 0) || decide (n < 0) || decide (512 < n)) = true:=by
    simp only [Bool.or_eq_true,decide_eq_true_eq];omega
   go_enter Tryz.func97,Tryz.ntmps97;go_wp2_with fail;refine (check_any _ l _ (HF1.out.mono (by simp)) hok).mono ?_;rintro e w1 ⟨rfl,hb1⟩;rw [HE.out];have cA:=(hb1.cell (p:=⟨w.heap.size,0,none⟩) (by simp)).trans hbox.cell;have HB:Hid _:=(qG _ _).trans (hb1.mono (by simp));clear hb1
   by_cases g1:size < 0
   ·go_wp2
    go_ret2
    exact ⟨rfl,HB.out⟩
   by_cases g2:1048576 < size
   ·go_wp2
    go_ret2
    exact ⟨rfl,HB.out⟩
   by_cases g3:at_ < 0
   ·go_wp2
    go_ret2
    exact ⟨rfl,HB.out⟩
   by_cases g4:n < 0
   ·go_wp2
    go_ret2
    exact ⟨rfl,HB.out⟩
   ·have g5:512 < n:=by omega
    go_wp2
    go_ret2
    exact ⟨rfl,HB.out⟩
  ·have H:Bl.rErr l size at_ n = 0:=by unfold Bl.rErr;rw [if_pos hr,if_neg hb]
   have HO:Bl.rOut l size at_ n = Bl.txt (Bl.over at_ (min n (size - at_)).toNat l):=by unfold Bl.rOut;rw [if_pos H]
   by_cases hlt:at_ < size
   ·rw [H,HO];exact read_ok _ l size at_ n (min n (size - at_)).toNat w HV.out hok hr (by omega) hlt (by omega) (by omega) (by omega) (by omega)
   ·rw [H,HO,show (min n (size - at_)).toNat = 0 by omega];clear H HO;have g1:¬ size < 0:=by omega
    have g2:¬ 1048576 < size:=by omega
    have g3:¬ at_ < 0:=by omega
    have g4:¬ n < 0:=by omega
    have g5:¬ 512 < n:=by omega
    have g6:size<=at_:=by omega
    clear hb;go_enter Tryz.func97,Tryz.ntmps97;go_wp2_with fail;refine (check_any _ l _ (HF1.out.mono (by simp)) hok).mono ?_;rintro e w1 ⟨rfl,hb1⟩;rw [HE.out];have cA:=(hb1.cell (p:=⟨w.heap.size,0,none⟩) (by simp)).trans hbox.cell;have HB:Hid _:=(qG _ _).trans (hb1.mono (by simp));clear hb1;go_wp2
    go_ret2
    exact ⟨rfl,HB.out⟩
 ·have HE:Hid (Bl.err l = 80):=by show Bl.err l = 80;unfold Bl.err;rw [if_neg hr]
  have H:Hid (Bl.rErr l size at_ n = 80):=by show Bl.rErr l size at_ n = 80;unfold Bl.rErr;rw [if_neg hr]
  have HO:Hid (Bl.rOut l size at_ n = Bl.txt []):=by show Bl.rOut l size at_ n = _;unfold Bl.rOut;rw [H.out,if_neg (by decide)]
  rw [H.out,HO.out];go_enter Tryz.func97,Tryz.ntmps97;go_wp2_with fail;refine (check_any _ l _ (HF1.out.mono (by simp)) hok).mono ?_;rintro e w1 ⟨rfl,hb1⟩;rw [HE.out];have HB:Hid _:=(qG _ _).trans (hb1.mono (by simp));clear hb1;go_wp2
  go_ret2
  exact ⟨rfl,HB.out⟩
end Go.Proofs.YtneojimodomohaaGreat.Bs
namespace Go.Proofs.YtneojimodomohaaGreat
open Go.ChangeShapes Go.WideShapes Go.ChangeAt Go.RowKit Go.Deep It
theorem good_runs {S:Nat->Prop} {w:World} {x:Rw} (h:Good S w x):Bs.FieldsAt w.heap.size w (.slice x.rp x.rn x.rc) x.i.runs/\Bs.okFields x.i.runs:=⟨h.1.fields,h.2.2.1⟩
namespace Nf
noncomputable def rdE (L:List Ino) (c:Cal):Int:=if fndE L c.no c.gen 1 405 = 0 then Bs.Bl.rErr (findI L c.no c.gen).runs (findI L c.no c.gen).size c.pl (min c.n 512) else fndE L c.no c.gen 1 405
noncomputable def rdD (L:List Ino) (c:Cal):ByteArray:=if fndE L c.no c.gen 1 405 = 0 then Bs.Bl.rOut (findI L c.no c.gen).runs (findI L c.no c.gen).size c.pl (min c.n 512) else ⟨#[]⟩
end Nf
theorem nread_any {S : Nat → Prop} (vi vo vs : Value) (dn cl : Int) (c : Cal) (L : List Rw) (B : Nat) (w : World) (hB : w.heap[B]? = some (BTk vi vo vs dn cl c)) (hv : TabAt S w vi L) :
    Calls Tryz.prog 51 #[.pointer (some ⟨B,0,none⟩)] w fun e w'=>e = .returned (VRp (Nf.rdE (pl L) c) 0 0 0 0 0 0 (Nf.rdD (pl L) c) (.slice none 0 0) 0)/\Bw w w':=by
  have hBl:=(Array.getElem?_eq_some_iff.1 hB).1;obtain ⟨W,hW⟩:=qF (w.alloc BR0);have HB0:Hid _:=qB hW;have HA0:Hid _:=qC hW;have HT0:Hid (W.heap[B]? = some (BTk vi vo vs dn cl c)):=(HB0.out.block _ hBl).trans hB;have HV:Hid (TabAt S W vi L):=hv.up HB0.out;have hwW:w.heap.size < W.heap.size:=(Array.getElem?_eq_some_iff.1 HA0.out).1;have hBW:B < W.heap.size:=(Array.getElem?_eq_some_iff.1 HT0.out).1;obtain ⟨E,hE⟩:=qE (Nf.rdE (pl L) c);obtain ⟨D,hD⟩:=qE (Nf.rdD (pl L) c);rw [hE,hD];unfold Nf.rdE at hE;unfold Nf.rdD at hD;obtain ⟨fe,hfe⟩:=qE (Nf.fndE (pl L) c.no c.gen 1 405);have HF:Hid (Nf.fndE (pl L) c.no c.gen 1 405 = fe):=hfe;rw [hfe] at hE hD;clear hv hB hfe;go_enter Tryz.func51,Tryz.ntmps51;go_wp2_with fail;rw [← hW];clear hW;refine (nfile_any vi vo vs dn cl c L B W HT0.out HV.out).mono ?_;rintro e w1 ⟨x,rfl,hxi,hxg,hb1⟩;rw [HF.out] at hxi ⊢;obtain ⟨Y,hY⟩:=qF (w1.alloc (BIx x));have bw1:Bw w1 Y:=by rw [hY];exact qG _ _
  have hbY:Bw W Y:=hb1.trans (bw1.mono hb1.size);have HBY:Hid (Bw w Y):=HB0.out.trans (hbY.mono HB0.out.size);have HZ:=qK hbY HA0;have HTY:=qK hbY HT0;have HXA:Hid _:=qC hY;have HG:Hid (GoodW Y x):=(hxg.imp (fun _ _ _=>trivial)).up bw1;have HXI:Hid (x.i = if fe = 0 then findI (pl L) c.no c.gen else zeroI):=hxi;have hzl:=(Array.getElem?_eq_some_iff.1 HZ.out).1;have hxl:=(Array.getElem?_eq_some_iff.1 HXA.out).1;have hne:w.heap.size≠w1.heap.size:=by have:=hb1.size;omega
  have hzl1:w.heap.size < w1.heap.size:=by have:=hb1.size;omega
  clear hb1 bw1 hbY hxg hxi HA0 HT0 HV
  by_cases h0:fe = 0
  · rw [if_pos h0] at hE hD
    have hxx:=HXI.out;rw [if_pos h0] at hxx;subst h0;rw [← hxx] at hE hD;obtain ⟨mn,hmn⟩:=qE (min c.n 512);rw [hmn] at hE hD;have HC:Hid (∀ V,Bw Y V->Calls Tryz.prog 97 #[.slice x.rp x.rn x.rc,.int .i64 x.i.size,.int .i64 c.pl,.int .i64 mn] V fun e w'=>e = .returned (.tuple #[.string D,.int .i64 E])/\Bw V w'):=fun V h=>by
      have hg:=good_runs (HG.out.up h);have:=Bs.read_any (.slice x.rp x.rn x.rc) x.i.runs x.i.size c.pl mn V hg.1 hg.2;rw [hE,hD] at this;exact this
    have HSG:Hid (∀ V:World,Bw Y V->V.cell? ⟨w1.heap.size,3,none⟩ = some (.int .i64 x.i.size)/\V.cell? ⟨w1.heap.size,5,none⟩ = some (.slice x.rp x.rn x.rc)/\V.cell? ⟨B,12,none⟩ = some (.int .i64 c.pl)/\V.cell? ⟨B,13,none⟩ = some (.int .i64 c.n)):=fun V h=>by
      obtain ⟨-,-,-,-,-,-,-,-,-,-,-,-,t12,t13,-⟩:=tk_of HTY.out;have k3:=cell_at HXA.out 3;have k5:=cell_at HXA.out 5;simp at k3 k5;exact ⟨cell_step k3 h,cell_step k5 h,cell_step t12 h,cell_step t13 h⟩
    have HMN:Hid ((if 512 < c.n then 512 else c.n) = mn):=by
      show _ = _;rw [← hmn];split <;> omega
    clear hE hD hxx HXI hmn;go_wp2_with fail;rw [← hY];clear hY
    go_region_held3 (fun V=>V.cell? ⟨w1.heap.size,3,none⟩ = some (.int .i64 x.i.size)/\V.cell? ⟨w1.heap.size,5,none⟩ = some (.slice x.rp x.rn x.rc)/\V.cell? ⟨B,12,none⟩ = some (.int .i64 c.pl)/\V.cell? ⟨B,13,none⟩ = some (.int .i64 c.n)) (first | (refine HSG.out _ ?_;(repeat (first | with_reducible assumption | with_reducible exact Below.refl _ _ | with_reducible refine bel_drew ?_));done)) (first
      | (go_at_call 97;rw [HMN.out];refine (HC.out _ (by first | exact Below.refl _ _ | exact bel_drew (Below.refl _ _))).mono ?_;rintro e w7 ⟨rfl,hb7⟩;have hb77:Bw Y w7:=(by first | exact hb7 | exact undrew hb7);clear hb7))
    all_goals
      have HB7:Hid (Bw w w7):=HBY.out.trans (hb77.mono HBY.out.size);have HZ7:=qK hb77 HZ;obtain ⟨g0,g1,g2,g3,g4,g5,g6,g7,g8,g9⟩:=rp_of HZ7.out;have gg:=fr_at HZ7.out;clear hb77 HC HSG;go_wp2
      (try simp only [Exit.inBlock,Exit.then])
      refine bodyPost_ret (v:=VRp E 0 0 0 0 0 0 D (.slice none 0 0) 0) ?_ rfl ⟨rfl,?_⟩
      · rw [results_cell1 rfl]
        go_simp
      · repeat (with_reducible refine Below.setCell ?_ (by simp) _)
        exact HB7.out
  · rw [if_neg h0] at hE hD
    subst hE;subst hD;have hz:(fe != 0) = true:=by simpa using h0
    clear HXI h0;go_wp2_with fail;rw [← hY];clear hY;refine (wrong_any fe _).mono ?_;rintro e w7 ⟨rfl,hb7⟩;have HB7:Hid (Bw w w7):=HBY.out.trans (hb7.mono HBY.out.size);have HZ7:=qK hb7 HZ;obtain ⟨g0,g1,g2,g3,g4,g5,g6,g7,g8,g9⟩:=rp_of HZ7.out;have gg:=fr_at HZ7.out;clear hb7;go_wp2
    (try simp only [Exit.inBlock,Exit.then])
    refine bodyPost_ret (v:=VRp fe 0 0 0 0 0 0 ⟨#[]⟩ (.slice none 0 0) 0) ?_ rfl ⟨rfl,?_⟩
    · rw [results_cell1 rfl]
      go_simp
    · repeat (with_reducible refine Below.setCell ?_ (by simp) _)
      exact HB7.out
end Go.Proofs.YtneojimodomohaaGreat
namespace Go.Proofs.YtneojimodomohaaGreat.Bs
open Go.RowKit Go.Shelf
attribute [local go_sem] Oper.semAt_some
def Bl.cErr (l:List Bl.R) (size:Int):Int:=if Bl.right (-1) l then if size < 0 then 1 else 0 else 80
def Bl.cOut (l:List Bl.R) (size:Int):List Bl.R:=if Bl.cErr l size = 0 then Bl.within 0 size l else []
theorem two_newg (W:World) (a b:Value) (T:TypeId):∀ j u,[a,b][j]? = some u->(W.alloc (.cells #[a,b] T)).cell? ((⟨W.heap.size,0,none⟩:Addr).add j) = some u:=two_new W _ rfl a b T
theorem cut_ok (v:Value) (l:List Bl.R) (size:Int) (w:World) (hv:FieldsAt w.heap.size w v l) (hok:okFields l) (hr:Bl.right (-1) l) (h0:0<=size) :
  Calls Tryz.prog 102 #[v,.int .i64 size] w fun e w'=>∃ r,e = .returned (.tuple #[r,.int .i64 0])/\w'.ownsRow w.heap.size 60 2 r (Bl.within 0 size l).length (cellsOf (Bl.within 0 size l))/\Below w.heap.size w w':=by
 obtain ⟨i0,hi,hz0,hz1,hz2⟩:=info_parts infoRun;have HE:Hid (Bl.err l = 0):=by show Bl.err l = 0;unfold Bl.err;rw [if_pos hr]
 have HV:Hid (FieldsAt w.heap.size w v l):=hv;obtain ⟨ao,cap,rfl,hm,_⟩:=hv.open;clear hv;have h0':¬ size < 0:=by omega
 refine (callsIn_wide (n:=3)).1 ?_;refine callsIn_of_wp_marks Tryz.func102 rfl trivial ?_ rfl;simp only [Tryz.ntmps102,List.size_toArray,List.length_cons,List.length_nil,Nat.reduceAdd,Nat.reduceSub,Array.replicate_succ,Array.replicate_zero,List.push_toArray,List.append_toArray,List.nil_append,List.cons_append];refine wpIn_wide.2 ?_;go_wp2_with fail;refine (check_any _ l _ HV.out hok).mono ?_;rintro e w1 ⟨rfl,hb1⟩;rw [HE.out];go_wp2_with fail;refine (within_any _ _ _ _ ⟨_,_,_,rfl⟩).mono ?_;rintro e w2 ⟨rfl,rfl⟩;go_wp2;have hO:w.heap.size<=w1.heap.size:=hb1.size;have hl0:l.length<=1048577:=by
  have h:(l.length:Int)<=1048576 - -1:=Bl.right_length hr (by decide);omega
 obtain ⟨n₀,hn₀⟩:=qE w.heap.size;obtain ⟨O,hOO⟩:=qE w1.heap.size;obtain ⟨lv,hlv⟩:=qE (Value.slice ao l.length cap);have b3:=three_new (w1.alloc (.cells #[.slice none 0 0] 56)) lv 0 size;rw [World.size_alloc] at b3;have bO:=(((Boxed.new w1 56 (.slice none 0 0)).alloc (.cells #[lv] 56)).alloc (.cells #[.int .i64 0] 3)).alloc (.cells #[.int .i64 size] 3);have hB0:Below w.heap.size w ((((w1.alloc (.cells #[.slice none 0 0] 56)).alloc (.cells #[lv] 56)).alloc (.cells #[.int .i64 0] 3)).alloc (.cells #[.int .i64 size] 3)) :=
  (((hb1.alloc hO _).alloc (by simp;omega) _).alloc (by simp;omega) _).alloc (by simp;omega) _
 have hsz:((((w1.alloc (.cells #[.slice none 0 0] 56)).alloc (.cells #[lv] 56)).alloc (.cells #[.int .i64 0] 3)).alloc (.cells #[.int .i64 size] 3)).heap.size = w1.heap.size + 4:=by simp
 rw [hlv,hn₀] at HV;rw [hlv];obtain ⟨W0,hW0⟩:=qE ((((w1.alloc (.cells #[.slice none 0 0] 56)).alloc (.cells #[lv] 56)).alloc (.cells #[.int .i64 0] 3)).alloc (.cells #[.int .i64 size] 3));rw [hW0] at b3 bO hB0 hsz ⊢;rw [hOO] at b3 bO hsz hO;rw [hn₀] at hB0 hO;have hF0:FieldsAt n₀ W0 lv l:=HV.out.below hB0 (Nat.le_refl _);rw [hOO];refine (wpIn_wide (n:=3)).1 ?_;refine wpIn_rangeFunc_ownH rfl (by omega) (gf:=187) (lb:=#[.pointer (some ⟨O + 1,0,none⟩),.pointer (some ⟨O + 1 + 1,0,none⟩),.pointer (some ⟨O + 1 + 1 + 1,0,none⟩)]) rfl trivial (enters_of Tryz.func187 (by kernel_rfl) rfl)
  (iter_stops (3 - 1) (by omega) (O + 1) n₀ lv l 0 size hr W0 (by omega) (by omega) hF0 b3) (fun h k=>keptK_t h k) (keptK_b (by omega) (by omega)) (Below.refl _ _) (fun _=>rfl)
  (fun pre W=>((∃ v,Boxed W O 56 v/\W.ownsRow n₀ 60 2 v pre.length (cellsOf (pre.map (·.1)))/\True)/\Three W (O + 1) lv 0 size)/\Below n₀ w W)
  (fun _ _ _=>False)
  (OwnFrom.and (OwnFrom.and (Own.from (holdsRow_own n₀ O 56 60 2 (fun pre:List (In 0 size)=>pre.length) (fun pre=>cellsOf (pre.map (·.1))) (fun _ _=>True)) _) (Own.from (three_own _ _ _ _) _)) (ownFrom_below (by omega) (by omega)))
  (fun _ _ _ _ _ hs _ _=>hs)
  ⟨⟨⟨_,bO,World.ownsRow_nil _ _ _ _,trivial⟩,b3⟩,hB0⟩
  (fun x a' W=>∃ Bx,W.heap[Bx]? = some (.cells #[.int .i64 x.1.1,.string x.1.2] 60 (0,0))/\a' = { tmps:=#[lv,.int .i64 size,undef,undef,.slice none 0 0,.int .i64 0,.pointer (some ⟨O,0,none⟩),.pointer (some ⟨Bx,0,none⟩),.bool false,lv,.int .i64 0,.bool false,.bool (decide (size < 0)),.int .i64 size,.bool (decide (size < 0)),lv,.int .i64 size,.func (.func 187) #[] #[.pointer (some ⟨O + 1,0,none⟩),.pointer (some ⟨O + 1 + 1,0,none⟩),.pointer (some ⟨O + 1 + 1 + 1,0,none⟩)],.agg #[.int .i64 x.1.1,.string x.1.2],undef,undef,undef,undef,undef],defers:=[] })
  (fun x a' _ X Y row hs hg hr=>by obtain ⟨Bx,h1,h2⟩:=hs;exact ⟨Bx,cells_own (β:=Unit) Bx _ _ () X Y row h1 hg (fun r e=>(hr r e).2),h2⟩)
  ?assign ?body ?done ?stop
 case assign =>
  rintro lp pre x W K ⟨⟨⟨v,bv,hv,_⟩,t3⟩,hB⟩ hK;simp only [encs]
  gi_wp2
  refine hK _ _ ((KeepsOthers.alloc _ _).from _) (Kept.still (World.grownBy_alloc _ _ _)) ⟨⟨⟨v,bv.alloc _,hv.alloc _,trivial⟩,t3.alloc _⟩,hB.alloc (by have:=hB.size;omega) _⟩ ⟨W.heap.size,heap_alloc_new _ _,rfl⟩
 case body =>
  rintro lp pre x a' W _ _ ⟨⟨⟨v,bv,hv,_⟩,t3⟩,hB⟩ ⟨Bx,hBx,rfl⟩ hlt;have hsW:n₀<=W.heap.size:=by have:=hB.size;omega
  have cO:=bv.cell;obtain ⟨x0,x1⟩:=two_of hBx
  gi_wp2_with (gi_at_builtin;refine wpListIn_append_own _ rfl _ _ 56 rfl n₀ 60 i0 (.agg #[.int .i64 0,.string ⟨#[]⟩]) 2 24 Tryz.underlying56 hi hz0 hz1 hz2 rfl (by decide) _ _ _ rfl (hv.alloc _) ⟨W.heap.size,0,none⟩ 1 1 [.int .i64 x.1.1,.string x.1.2] rfl rfl (two_newg _ _ _ _) (one2 _ _) (by unfold maxLen;omega) (by omega) (by simp;omega) ?_;intro v' w' hown' hgrow' _;obtain ⟨g',cap',rfl⟩:=ownsRow_succ hown';obtain ⟨k1,k2,k3,k4,k5⟩:=bv.appended (by decide) hv hsW hO hown' hgrow';have k6:=fun B t u (ht:t≠60) (hB:B≠O) (hb:Boxed W B t u)=>((hb.alloc _).kept hgrow' (hb.not_row ht hv)).other hB (.slice (some ⟨g',0,none⟩) (pre.length + 1) cap');have hc1:=k1.cell;have hf1:=k1.frozen)
  have t3':=(show Three _ (O + 1) lv 0 size from ⟨k6 _ _ _ (by decide) (by omega) t3.1,k6 _ _ _ (by decide) (by omega) t3.2.1,k6 _ _ _ (by decide) (by omega) t3.2.2⟩);exact ⟨k4.from _,t3.kept t3' k5,⟨⟨_,k2,by rw [List.map_append,List.length_append,cellsOf_append];exact k3,trivial⟩,t3'⟩,hB.trans k5⟩
 case done =>
  rintro D ys W hD hys ⟨⟨⟨v,bv,hv,_⟩,t3⟩,hB⟩ hK;have hl:=congrArg List.length hys;rw [List.length_map] at hl;rw [hys,hl] at hv;have cO:=bv.cell;go_wp2;refine ⟨by simp,.inl ⟨_,_,rfl,run_takeDeferred hK,?_⟩⟩;have hrow5:=ownsRow_putObj hv (.deferred none) hK rfl;refine ⟨.tuple #[v,.int .i64 0],by simp [results,Tryz.results102,go_sem],⟨v,rfl,?_,?_⟩⟩
  ·rw [hn₀];exact hrow5
  ·rw [hn₀];exact hB.trans (belowK_b (w:=W0) (by omega) W D _ (.deferred none) (by omega) hK rfl rfl)
 case stop =>
  rintro D c pre W _ _ h _;exact h.elim
theorem cut_any (v:Value) (l:List Bl.R) (size:Int) (w:World) (hv:FieldsAt w.heap.size w v l) (hok:okFields l) :
  Calls Tryz.prog 102 #[v,.int .i64 size] w fun e w'=>∃ r,e = .returned (.tuple #[r,.int .i64 (Bl.cErr l size)])/\w'.ownsRow w.heap.size 60 2 r (Bl.cOut l size).length (cellsOf (Bl.cOut l size))/\Bw w w':=by
 by_cases hr:Bl.right (-1) l
 ·by_cases h0:size < 0
  ·have HE:Hid (Bl.err l = 0):=by show Bl.err l = 0;unfold Bl.err;rw [if_pos hr]
   have he:Bl.cErr l size = 1:=by unfold Bl.cErr;rw [if_pos hr,if_pos h0]
   have ho:Bl.cOut l size = []:=by unfold Bl.cOut;rw [he,if_neg (by decide)]
   rw [he,ho];have HV:Hid _:=hv;obtain ⟨ao,cap,rfl,hm,_⟩:=hv.open;clear hv he ho;go_enter Tryz.func102,Tryz.ntmps102;go_wp2_with fail;refine (check_any _ l _ HV.out hok).mono ?_;rintro e w1 ⟨rfl,hb1⟩;rw [HE.out];go_wp2
   go_ret2
   exact ⟨_,rfl,World.ownsRow_nil _ _ _ _,hb1⟩
  ·have he:Bl.cErr l size = 0:=by unfold Bl.cErr;rw [if_pos hr,if_neg h0]
   have ho:Bl.cOut l size = Bl.within 0 size l:=by unfold Bl.cOut;rw [if_pos he]
   rw [he,ho];exact cut_ok v l size w hv hok hr (by omega)
 ·have HE:Hid (Bl.err l = 80):=by show Bl.err l = 80;unfold Bl.err;rw [if_neg hr]
  have he:Bl.cErr l size = 80:=by unfold Bl.cErr;rw [if_neg hr]
  have ho:Bl.cOut l size = []:=by unfold Bl.cOut;rw [he,if_neg (by decide)]
  rw [he,ho];have HV:Hid _:=hv;obtain ⟨ao,cap,rfl,hm,_⟩:=hv.open;clear hv he ho;go_enter Tryz.func102,Tryz.ntmps102;go_wp2_with fail;refine (check_any _ l _ HV.out hok).mono ?_;rintro e w1 ⟨rfl,hb1⟩;rw [HE.out];go_wp2
  go_ret2
  exact ⟨_,rfl,World.ownsRow_nil _ _ _ _,hb1⟩
end Go.Proofs.YtneojimodomohaaGreat.Bs
