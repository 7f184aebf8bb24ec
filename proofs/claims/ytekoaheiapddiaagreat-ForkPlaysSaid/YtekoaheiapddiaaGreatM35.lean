/- Merged: Gj. -/
import Derived.Test.YtekoaheiapddiaaGreatM34
import Derived.Test.YtekoaheiapddiaaGreatM31
section
namespace Go.Proofs.YtekoaheiapddiaaGreat.Dz
open Go.RowKit
abbrev deedC (k a s : Nat) (pa:Option Addr) (ln pc : Nat) : Array Value:=#[.int .u8 k,.int .u8 a,.int .u8 s,.slice pa ln pc]
abbrev deedO (k a s : Nat) (pa:Option Addr) (ln pc : Nat) : Obj:=.cells (deedC k a s pa ln pc) 45 (0,0)
section
variable {p : Pd} {c : Cl} {X : Nat→Prop} {V0 W : World} {N d b e b' m : Nat} {F : Nat→Prop} {sv av v cv sv' av' : Value}
theorem Tw2.unbox {I I' J J' : World→Prop} {ft ft' gt gt' X : Nat→Prop} {V0 V V' : World} {o : Obj} (h:Tw2 I ft J gt X V0 V) (h' : Tw2 I' ft' J' gt' (fun k=>X k∨k=V.heap.size) (V.alloc o) V') : Tw2 I' ft' J' gt' X V0 V':=
 h'.less (fun _ hk=>Or.inl hk) (fun k hk=>(Below.heap_alloc V _ _ (h.ext k hk).1).trans (h.ext k hk).2.2.2) h.os h.tape h.output
structure Tq (I:World→Prop) (ft:Nat→Prop) (J:World→Prop) (gt X : Nat→Prop) (V0:World) (q:Nat) (o:Obj) (V:World) : Prop where
 tw : Tw2 I ft J gt X V0 V
 box : V.heap[q]?=some o
 n1 : ¬ ft q
 n2 : ¬ gt q
 n3 : ¬ X q
section
variable {I I' J J' : World→Prop} {ft ft' gt gt' X : Nat→Prop} {V0 V V' : World} {q : Nat} {o o' : Obj}
theorem Tq.new (h:Tw2 I ft J gt X V0 V) (o:Obj) : Tq I ft J gt X V0 V.heap.size o (V.alloc o):=
 ⟨h.call ((Below.refl _ _).alloc (Nat.le_refl _) o),heap_alloc_new _ _,fun hf=>by have:=h.one.lt _ hf; omega,fun hf=>by have:=h.two.lt _ hf; omega,fun hf=>by have:=(h.ext _ hf).1; omega⟩
theorem Tq.call (h:Tq I ft J gt X V0 q o V) (hb:Below V.heap.size V V') : Tq I ft J gt X V0 q o V':=⟨h.tw.call hb,(hb.block _ (lt_of h.box)).trans h.box,h.n1,h.n2,h.n3⟩
theorem Tq.left (h:Tq I ft J gt X V0 q o V) (h1:Ob I' ft' V') (h2:Chg ft ft' V V') : Tq I' ft' J gt X V0 q o V':=
 ⟨h.tw.left h1 h2,(h2.block _ (lt_of h.box) h.n1).trans h.box,fun hf=>by
   rcases h2.new _ hf with h3 | h3
   · exact h.n1 h3
   · have:=lt_of h.box; omega,h.n2,h.n3⟩
theorem Tq.right (h:Tq I ft J gt X V0 q o V) (h1:Ob J' gt' V') (h2:Chg gt gt' V V') : Tq I ft J' gt' X V0 q o V':=
 ⟨h.tw.right h1 h2,(h2.block _ (lt_of h.box) h.n2).trans h.box,h.n1,fun hf=>by
   rcases h2.new _ hf with h3 | h3
   · exact h.n2 h3
   · have:=lt_of h.box; omega,h.n3⟩
theorem Tq.put (h:Tq I ft J gt X V0 q o V) (hc:Chg (fun k=>k=q) (fun k=>k=q) V V') (ho:V'.heap[q]?=some o') : Tq I ft J gt X V0 q o' V':=
 ⟨⟨h.tw.one.chg hc (fun _ hk e=>h.n1 (e ▸ hk)),h.tw.two.chg hc (fun _ hk e=>h.n2 (e ▸ hk)),h.tw.ap,hc.os.trans h.tw.os,hc.tape.trans h.tw.tape,hc.output.trans h.tw.output,fun k hk=>by
   obtain⟨k1,k2,k3,k4⟩:=h.tw.ext k hk
   exact⟨Nat.lt_of_lt_of_le k1 hc.size,k2,k3,(hc.block k k1 (fun e=>h.n3 (e ▸ hk))).trans k4⟩⟩,ho,h.n1,h.n2,h.n3⟩
theorem Tq.hold (h:Tq I ft J gt X V0 q o V) : Tw2 I ft J gt (fun k=>X k∨k=q) V V:=
 ⟨h.tw.one,h.tw.two,h.tw.ap,rfl,rfl,rfl,fun k hk=>by
   rcases hk with hk | rfl
   · obtain⟨k1,k2,k3,_⟩:=h.tw.ext k hk
     exact⟨k1,k2,k3,rfl⟩
   · exact⟨lt_of h.box,h.n1,h.n2,rfl⟩⟩
theorem Tw2.unhold (h:Tw2 I ft J gt X V0 V) (h' : Tw2 I' ft' J' gt' (fun k=>X k∨k=q) V V') : Tw2 I' ft' J' gt' X V0 V':=h'.less (fun _ hk=>Or.inl hk) (fun k hk=>(h.ext k hk).2.2.2) h.os h.tape h.output
end
theorem word_small {n : Nat} (h:n<4) : wordV n=.agg #[.int .u64 0,.int .u64 0,.int .u64 0,.int .u64 (n:Nat)]:=by
 rcases (by omega : n=0∨n=1∨n=2∨n=3) with rfl | rfl | rfl | rfl <;> rfl
theorem eq_wdR (n:Nat) (w:World) : (binOp .eql 61 (.agg #[.int .u64 (l3 n : Nat),.int .u64 (l2 n : Nat),.int .u64 (l1 n : Nat),.int .u64 (l0 n : Nat)]) (.agg #[.int .u64 (l3 n : Nat),.int .u64 (l2 n : Nat),.int .u64 (l1 n : Nat),.int .u64 (l0 n : Nat)])).run Tryz.prog w=.ok (.bool true) w:=by
 have u3:=Tryz.underlying41
 have a3':=Tryz.isAgg41
 have z3:=Tryz.sizeOf41
 have hS : Tryz.prog.underlying 61=some (.struct (Tryz.prog.fieldsOf 61)):=by kernel_rfl
 have hp : Tryz.prog.stoodInHeld 61=false:=by kernel_rfl
 rw [run_eql_struct,show (10000:Nat)=9999+1 from rfl,run_equalIn_agg w 9999 61 _ _ hS hp]
 simp only [Program.fieldsOf,Tryz.underlying61]
 go_simp
set_option maxRecDepth 100000 in
set_option maxHeartbeats 8000000 in
theorem does_acc0 (h:Tw2 (Bo p c nmC d N F b m sv av) (ftB F b m sv av) (RAt p c nmC e v b' cv sv' av' (c.asked.length+1)) (ftR e v b' cv sv' av') X V0 W) (hK:KOk c.known) (hp:p.Ok) (hB:Fit 1000 p c) (hN:N<900000) {k a s : Nat} (ha:a<256) (hk:k % 5=0) (l:List ToldP) (pa:Option Addr) (ln pc : Nat) :
  Calls Tryz.prog 20 #[.pointer (some ⟨b,0,none⟩),.pointer (some ⟨b',0,none⟩),.agg (deedC k a s pa ln pc)] W fun e1 W'=>DoesR (deedP p c k a s l).1 (deedP p c k a s l).2 X V0 (N+4) d b e b' e1 W':=by
 have hki : (k:Int) % 5=0:=by omega
 have hdp : deedP p c k a s l=(askP nmC p c ⟨0,addrP a,0,1⟩).2:=by unfold deedP; rw [if_pos (by omega)]
 obtain⟨W0,hW0⟩ : ∃ W0,W0=W.alloc (deedO k a s pa ln pc):=⟨_,rfl⟩
 have H1:=h.box (deedO k a s pa ln pc)
 rw [← hW0] at H1
 have hbx : W0.heap[W.heap.size]?=some (deedO k a s pa ln pc):=by rw [hW0]; exact heap_alloc_new _ _
 have HU:=Lib.hid h
 have AL:=Lib.hid (fun V (hV:Bo p c nmC d N F b m sv av V)=>acct_c hV (addrP a) (by have:=hB.asked; omega) hN (by show (1:Nat)≤1000000; omega))
 have AR:=Lib.hid (fun V (hV:RAt p c nmC e v b' cv sv' av' (c.asked.length+1) V)=>racct_c hV rfl hp (by have:=hB.few; omega) hK (by have:=hB.known; omega) (by have:=hB.asked; omega) (addrP a))
 have AD:=Lib.hid (fun V=>address_c a ha V)
 rw [hdp]
 generalize askP nmC p c ⟨0,addrP a,0,1⟩=res at *
 obtain⟨⟨r9,e9⟩,p9,c9⟩:=res
 simp only at AL AR ⊢
 have EA:=eq_acc r9
 unfold accC at EA AL AR
 clear hdp hK hp hB hN ha
 have HH:=Lib.hid (And.intro H1 hbx)
 unfold deedO deedC at hbx
 obtain⟨⟨x0,x1,x2,x3⟩,_⟩:=cells4 hbx
 have HW0:=Lib.hid hW0
 unfold deedC
 clear h H1 hbx
 go_enter Tryz.func20,Tryz.ntmps20
 go_upto_region 1 with fail
 rw [show W.alloc (.cells #[.int .u8 k,.int .u8 a,.int .u8 s,.slice pa ln pc] 45)=W0 from HW0.out.symm]
 clear hW0
 go_wp2_with fail
 refine (AD.out _).mono ?_
 rintro e1 V1 ⟨rfl,hb⟩
 have M1:=HH.out.1.call hb
 have HM1:=Lib.hid M1
 have L1:=Lib.hid (AL.out _ M1.one.it)
 clear M1 hb x0 x1 x2 x3 AL
 go_wp2_with fail
 refine L1.out.mono ?_
 rintro e1 V2 ⟨rfl,F2,sv2,av2,hB2,hC2⟩
 have M2:=HM1.out.left hB2.ob hC2
 have M3:=M2.box (.cells #[.int .u64 r9.nonce,.int .u64 (l3 r9.bal : Nat),.int .u64 (l2 r9.bal : Nat),.int .u64 (l1 r9.bal : Nat),.int .u64 (l0 r9.bal : Nat),.string (str r9.code)] 82 (0,0))
 have hq7:=heap_alloc_new V2 (.cells #[.int .u64 r9.nonce,.int .u64 (l3 r9.bal : Nat),.int .u64 (l2 r9.bal : Nat),.int .u64 (l1 r9.bal : Nat),.int .u64 (l0 r9.bal : Nat),.string (str r9.code)] 82 (0,0))
 have HM2:=Lib.hid M2
 clear HM1 L1 hB2 hC2 M2
 go_upto_region 5 with fail
 obtain⟨V3,hV3⟩ : ∃ V3,V3=V2.alloc (.cells #[.int .u64 r9.nonce,.int .u64 (l3 r9.bal : Nat),.int .u64 (l2 r9.bal : Nat),.int .u64 (l1 r9.bal : Nat),.int .u64 (l0 r9.bal : Nat),.string (str r9.code)] 82 (0,0)):=⟨_,rfl⟩
 obtain⟨q7,hq⟩ : ∃ q,q=V2.heap.size:=⟨_,rfl⟩
 rw [← hV3,← hq] at M3 hq7
 rw [show V2.alloc (.cells #[.int .u64 r9.nonce,.int .u64 (l3 r9.bal : Nat),.int .u64 (l2 r9.bal : Nat),.int .u64 (l1 r9.bal : Nat),.int .u64 (l0 r9.bal : Nat),.string (str r9.code)] 82 (0,0))=V3 from hV3.symm,show V2.heap.size=q7 from hq.symm]
 have HV3:=Lib.hid (And.intro hV3 hq)
 clear hV3 hq
 have hb5:=M3.at (k:=W.heap.size) (Or.inl (Or.inr rfl)) (o:=deedO k a s pa ln pc) ((M3.ext _ (Or.inl (Or.inr rfl))).2.2.2.symm.trans (by rw [HV3.out.1,Below.heap_alloc V2 _ _ (HM2.out.ext _ (Or.inr rfl)).1]; exact HM2.out.at (Or.inr rfl) HH.out.2))
 obtain⟨⟨x0,x1,x2,x3⟩,_⟩:=cells4 hb5
 have HM3:=Lib.hid (And.intro M3 hq7)
 clear M3 hb5 hq7
 go_wp2_with fail
 refine (AD.out _).mono ?_
 rintro e1 V4 ⟨rfl,hb⟩
 have M4:=HM3.out.1.call hb
 have R1:=Lib.hid (AR.out _ M4.two.it)
 have HM4:=Lib.hid M4
 clear M4 hb x0 x1 x2 x3 AR AD
 go_wp2_with fail
 refine R1.out.mono ?_
 rintro e1 V5 ⟨rfl,v5,cv5,sv5,av5,hr5,hc5⟩
 have M5:=HM4.out.right hr5.ob hc5
 have h7:=M5.at (k:=q7) (Or.inr rfl) HM3.out.2
 have M6:=M5.call ((Below.refl _ _).alloc (Nat.le_refl _) (.cells #[.int .u64 r9.nonce,.int .u64 (l3 r9.bal : Nat),.int .u64 (l2 r9.bal : Nat),.int .u64 (l1 r9.bal : Nat),.int .u64 (l0 r9.bal : Nat),.string (str r9.code)] 82 (0,0)))
 have h77:=M6.at (k:=q7) (Or.inr rfl) HM3.out.2
 have h99:=heap_alloc_new V5 (.cells #[.int .u64 r9.nonce,.int .u64 (l3 r9.bal : Nat),.int .u64 (l2 r9.bal : Nat),.int .u64 (l1 r9.bal : Nat),.int .u64 (l0 r9.bal : Nat),.string (str r9.code)] 82 (0,0))
 clear HM4 R1 hr5 hc5 M5 h7
 go_upto_region 6 with fail
 obtain⟨V6,hV6⟩ : ∃ V6,V6=V5.alloc (.cells #[.int .u64 r9.nonce,.int .u64 (l3 r9.bal : Nat),.int .u64 (l2 r9.bal : Nat),.int .u64 (l1 r9.bal : Nat),.int .u64 (l0 r9.bal : Nat),.string (str r9.code)] 82 (0,0)):=⟨_,rfl⟩
 obtain⟨q9,hq9⟩ : ∃ q,q=V5.heap.size:=⟨_,rfl⟩
 rw [← hV6] at M6 h77 h99
 rw [← hq9] at h99
 rw [show V5.alloc (.cells #[.int .u64 r9.nonce,.int .u64 (l3 r9.bal : Nat),.int .u64 (l2 r9.bal : Nat),.int .u64 (l1 r9.bal : Nat),.int .u64 (l0 r9.bal : Nat),.string (str r9.code)] 82 (0,0))=V6 from hV6.symm,show V5.heap.size=q9 from hq9.symm]
 obtain⟨⟨y0,y1,y2,y3,y4,y5⟩,_⟩:=cells6 h77
 obtain⟨⟨z0,z1,z2,z3,z4,z5⟩,_⟩:=cells6 h99
 have HM6:=Lib.hid M6
 clear hV6 hq9 M6 h77 h99
 go_wp2_with fail
 go_ret
 have M7:=HM6.out
 rw [HV3.out.1,HV3.out.2] at M7
 have M8:=HM2.out.unbox M7
 rw [HW0.out] at M8
 have M9:=HU.out.unbox M8
 exact⟨rfl,_,_,_,_,_,_,_,_,M9⟩
set_option maxRecDepth 100000 in
set_option maxHeartbeats 8000000 in
theorem does_acc1 (h:Tw2 (Bo p c nmC d N F b m sv av) (ftB F b m sv av) (RAt p c nmC e v b' cv sv' av' (c.asked.length+1)) (ftR e v b' cv sv' av') X V0 W) (hK:KOk c.known) (hp:p.Ok) (hB:Fit 1000 p c) (hN:N<900000) {k a s : Nat} (ha:a<256) (hk:k % 5=1) (l:List ToldP) (pa:Option Addr) (ln pc : Nat) :
  Calls Tryz.prog 20 #[.pointer (some ⟨b,0,none⟩),.pointer (some ⟨b',0,none⟩),.agg (deedC k a s pa ln pc)] W fun e1 W'=>DoesR (deedP p c k a s l).1 (deedP p c k a s l).2 X V0 (N+4) d b e b' e1 W':=by
 have hki : (k:Int) % 5=1:=by omega
 have hdp : deedP p c k a s l=(askP nmC p c ⟨0,addrP a,0,1⟩).2:=by unfold deedP; rw [if_pos (by omega)]
 obtain⟨W0,hW0⟩ : ∃ W0,W0=W.alloc (deedO k a s pa ln pc):=⟨_,rfl⟩
 have H1:=h.box (deedO k a s pa ln pc)
 rw [← hW0] at H1
 have hbx : W0.heap[W.heap.size]?=some (deedO k a s pa ln pc):=by rw [hW0]; exact heap_alloc_new _ _
 have HU:=Lib.hid h
 have AL:=Lib.hid (fun V (hV:Bo p c nmC d N F b m sv av V)=>acct_c hV (addrP a) (by have:=hB.asked; omega) hN (by show (1:Nat)≤1000000; omega))
 have AR:=Lib.hid (fun V (hV:RAt p c nmC e v b' cv sv' av' (c.asked.length+1) V)=>racct_c hV rfl hp (by have:=hB.few; omega) hK (by have:=hB.known; omega) (by have:=hB.asked; omega) (addrP a))
 have AD:=Lib.hid (fun V=>address_c a ha V)
 rw [hdp]
 generalize askP nmC p c ⟨0,addrP a,0,1⟩=res at *
 obtain⟨⟨r9,e9⟩,p9,c9⟩:=res
 simp only at AL AR ⊢
 have EA:=eq_acc r9
 unfold accC at EA AL AR
 clear hdp hK hp hB hN ha
 have HH:=Lib.hid (And.intro H1 hbx)
 unfold deedO deedC at hbx
 obtain⟨⟨x0,x1,x2,x3⟩,_⟩:=cells4 hbx
 have HW0:=Lib.hid hW0
 unfold deedC
 clear h H1 hbx
 go_enter Tryz.func20,Tryz.ntmps20
 go_upto_region 1 with fail
 rw [show W.alloc (.cells #[.int .u8 k,.int .u8 a,.int .u8 s,.slice pa ln pc] 45)=W0 from HW0.out.symm]
 clear hW0
 go_wp2_with fail
 refine (AD.out _).mono ?_
 rintro e1 V1 ⟨rfl,hb⟩
 have M1:=HH.out.1.call hb
 have HM1:=Lib.hid M1
 have L1:=Lib.hid (AL.out _ M1.one.it)
 clear M1 hb x0 x1 x2 x3 AL
 go_wp2_with fail
 refine L1.out.mono ?_
 rintro e1 V2 ⟨rfl,F2,sv2,av2,hB2,hC2⟩
 have M2:=HM1.out.left hB2.ob hC2
 have M3:=M2.box (.cells #[.int .u64 r9.nonce,.int .u64 (l3 r9.bal : Nat),.int .u64 (l2 r9.bal : Nat),.int .u64 (l1 r9.bal : Nat),.int .u64 (l0 r9.bal : Nat),.string (str r9.code)] 82 (0,0))
 have hq7:=heap_alloc_new V2 (.cells #[.int .u64 r9.nonce,.int .u64 (l3 r9.bal : Nat),.int .u64 (l2 r9.bal : Nat),.int .u64 (l1 r9.bal : Nat),.int .u64 (l0 r9.bal : Nat),.string (str r9.code)] 82 (0,0))
 have HM2:=Lib.hid M2
 clear HM1 L1 hB2 hC2 M2
 go_upto_region 5 with fail
 obtain⟨V3,hV3⟩ : ∃ V3,V3=V2.alloc (.cells #[.int .u64 r9.nonce,.int .u64 (l3 r9.bal : Nat),.int .u64 (l2 r9.bal : Nat),.int .u64 (l1 r9.bal : Nat),.int .u64 (l0 r9.bal : Nat),.string (str r9.code)] 82 (0,0)):=⟨_,rfl⟩
 obtain⟨q7,hq⟩ : ∃ q,q=V2.heap.size:=⟨_,rfl⟩
 rw [← hV3,← hq] at M3 hq7
 rw [show V2.alloc (.cells #[.int .u64 r9.nonce,.int .u64 (l3 r9.bal : Nat),.int .u64 (l2 r9.bal : Nat),.int .u64 (l1 r9.bal : Nat),.int .u64 (l0 r9.bal : Nat),.string (str r9.code)] 82 (0,0))=V3 from hV3.symm,show V2.heap.size=q7 from hq.symm]
 have HV3:=Lib.hid (And.intro hV3 hq)
 clear hV3 hq
 have hb5:=M3.at (k:=W.heap.size) (Or.inl (Or.inr rfl)) (o:=deedO k a s pa ln pc) ((M3.ext _ (Or.inl (Or.inr rfl))).2.2.2.symm.trans (by rw [HV3.out.1,Below.heap_alloc V2 _ _ (HM2.out.ext _ (Or.inr rfl)).1]; exact HM2.out.at (Or.inr rfl) HH.out.2))
 obtain⟨⟨x0,x1,x2,x3⟩,_⟩:=cells4 hb5
 have HM3:=Lib.hid (And.intro M3 hq7)
 clear M3 hb5 hq7
 go_wp2_with fail
 refine (AD.out _).mono ?_
 rintro e1 V4 ⟨rfl,hb⟩
 have M4:=HM3.out.1.call hb
 have R1:=Lib.hid (AR.out _ M4.two.it)
 have HM4:=Lib.hid M4
 clear M4 hb x0 x1 x2 x3 AR AD
 go_wp2_with fail
 refine R1.out.mono ?_
 rintro e1 V5 ⟨rfl,v5,cv5,sv5,av5,hr5,hc5⟩
 have M5:=HM4.out.right hr5.ob hc5
 have h7:=M5.at (k:=q7) (Or.inr rfl) HM3.out.2
 have M6:=M5.call ((Below.refl _ _).alloc (Nat.le_refl _) (.cells #[.int .u64 r9.nonce,.int .u64 (l3 r9.bal : Nat),.int .u64 (l2 r9.bal : Nat),.int .u64 (l1 r9.bal : Nat),.int .u64 (l0 r9.bal : Nat),.string (str r9.code)] 82 (0,0)))
 have h77:=M6.at (k:=q7) (Or.inr rfl) HM3.out.2
 have h99:=heap_alloc_new V5 (.cells #[.int .u64 r9.nonce,.int .u64 (l3 r9.bal : Nat),.int .u64 (l2 r9.bal : Nat),.int .u64 (l1 r9.bal : Nat),.int .u64 (l0 r9.bal : Nat),.string (str r9.code)] 82 (0,0))
 clear HM4 R1 hr5 hc5 M5 h7
 go_upto_region 6 with fail
 obtain⟨V6,hV6⟩ : ∃ V6,V6=V5.alloc (.cells #[.int .u64 r9.nonce,.int .u64 (l3 r9.bal : Nat),.int .u64 (l2 r9.bal : Nat),.int .u64 (l1 r9.bal : Nat),.int .u64 (l0 r9.bal : Nat),.string (str r9.code)] 82 (0,0)):=⟨_,rfl⟩
 obtain⟨q9,hq9⟩ : ∃ q,q=V5.heap.size:=⟨_,rfl⟩
 rw [← hV6] at M6 h77 h99
 rw [← hq9] at h99
 rw [show V5.alloc (.cells #[.int .u64 r9.nonce,.int .u64 (l3 r9.bal : Nat),.int .u64 (l2 r9.bal : Nat),.int .u64 (l1 r9.bal : Nat),.int .u64 (l0 r9.bal : Nat),.string (str r9.code)] 82 (0,0))=V6 from hV6.symm,show V5.heap.size=q9 from hq9.symm]
 obtain⟨⟨y0,y1,y2,y3,y4,y5⟩,_⟩:=cells6 h77
 obtain⟨⟨z0,z1,z2,z3,z4,z5⟩,_⟩:=cells6 h99
 have HM6:=Lib.hid M6
 clear hV6 hq9 M6 h77 h99
 go_wp2_with fail
 go_ret
 have M7:=HM6.out
 rw [HV3.out.1,HV3.out.2] at M7
 have M8:=HM2.out.unbox M7
 rw [HW0.out] at M8
 have M9:=HU.out.unbox M8
 exact⟨rfl,_,_,_,_,_,_,_,_,M9⟩
set_option maxRecDepth 100000 in
set_option maxHeartbeats 8000000 in
theorem does_slot2 (h:Tw2 (Bo p c nmC d N F b m sv av) (ftB F b m sv av) (RAt p c nmC e v b' cv sv' av' (c.asked.length+1)) (ftR e v b' cv sv' av') X V0 W) (hK:KOk c.known) (hp:p.Ok) (hB:Fit 1000 p c) (hN:N<900000) {k a s : Nat} (ha:a<256) (hk:k % 5=2) (l:List ToldP) (pa:Option Addr) (ln pc : Nat) :
  Calls Tryz.prog 20 #[.pointer (some ⟨b,0,none⟩),.pointer (some ⟨b',0,none⟩),.agg (deedC k a s pa ln pc)] W fun e1 W'=>DoesR (deedP p c k a s l).1 (deedP p c k a s l).2 X V0 (N+4) d b e b' e1 W':=by
 have hki : (k:Int) % 5=2:=by omega
 have hdp : deedP p c k a s l=(askP nmC p c ⟨0,addrP a,s % 4,2⟩).2:=by unfold deedP; rw [if_neg (by omega),if_pos (by omega)]
 have hs4 : s % 4<4:=Nat.mod_lt _ (by omega)
 have hw9 : s % 4<W256:=Nat.lt_of_lt_of_le hs4 (by decide)
 obtain⟨W0,hW0⟩ : ∃ W0,W0=W.alloc (deedO k a s pa ln pc):=⟨_,rfl⟩
 have H1:=h.box (deedO k a s pa ln pc)
 rw [← hW0] at H1
 have hbx : W0.heap[W.heap.size]?=some (deedO k a s pa ln pc):=by rw [hW0]; exact heap_alloc_new _ _
 have HU:=Lib.hid h
 have SL:=Lib.hid (fun V (hV:Bo p c nmC d N F b m sv av V)=>slot_c hV (addrP a) (s % 4) hw9 (by have:=hB.asked; omega) hN (by show (1:Nat)≤1000000; omega))
 have SR:=Lib.hid (fun V (hV:RAt p c nmC e v b' cv sv' av' (c.asked.length+1) V)=>rslot_c hV rfl hp (by have:=hB.few; omega) hK (by have:=hB.known; omega) (by have:=hB.asked; omega) (addrP a) (s % 4) hw9)
 rw [word_small hs4] at SL SR
 have AD:=Lib.hid (fun V=>address_c a ha V)
 rw [hdp]
 generalize askP nmC p c ⟨0,addrP a,s % 4,2⟩=res at *
 obtain⟨⟨r9,e9⟩,p9,c9⟩:=res
 simp only at SL SR ⊢
 obtain⟨s4,hs5⟩ : ∃ s4,s4=s % 4:=⟨_,rfl⟩
 rw [← hs5] at SL SR hs4
 have hsi : (s:Int) % 4=(s4:Int):=by omega
 have hst : (s:Int).tmod 4=(s4:Int):=by rw [Int.tmod_eq_emod_of_nonneg (by omega)]; exact hsi
 have hw8 : IntKind.u64.wrap (s4:Int)=(s4:Int):=by rw [IntKind.wrap_u64]; omega
 have EW:=eq_wdR r9.value
 unfold valC at SL SR
 clear hdp hK hp hB hN ha hs5 hs4 hw9
 have HM:=Lib.hid H1
 have HDn:=Lib.hid (fun V {Pc Rc : World→Prop} {fc gc : Nat→Prop} (M:Tw2 Pc fc Rc gc (fun k=>X k∨k=W.heap.size) W0 V)=>M.at (Or.inr rfl) hbx)
 obtain⟨⟨x0,_⟩,_⟩:=cells4 hbx
 have HW0:=Lib.hid hW0
 unfold deedC
 clear h H1 hbx
 go_enter Tryz.func20,Tryz.ntmps20
 go_upto_region 1 with fail
 rw [show W.alloc (.cells #[.int .u8 k,.int .u8 a,.int .u8 s,.slice pa ln pc] 45)=W0 from HW0.out.symm]
 clear hW0
 go_upto_region 9 with fail
 try simp only [hki]
 go_cut [11,12] from 48 (fun pp gg wx=>∃ q11 F2 sv2 av2,pp=.pointer (some ⟨q11,0,none⟩)∧gg=.int .i64 e9∧Tq (Bo p9 c9 nmC d (N+4) F2 b m sv2 av2) (ftB F2 b m sv2 av2) (RAt p c nmC e v b' cv sv' av' (c.asked.length+1)) (ftR e v b' cv sv' av') (fun k=>X k∨k=W.heap.size) W0 q11 (wdR r9.value) wx)
 case first=>
  have MD:=HM.out.call (Below.refl _ _).drew
  have HS:=Lib.hid (fun (V:World) (hV:V.heap[W.heap.size]?=some (deedO k a s pa ln pc))=>And.intro (show V.cell? ⟨W.heap.size,1,none⟩=some (.int .u8 a) from cell_of hV 1) (show V.cell? ⟨W.heap.size,2,none⟩=some (.int .u8 s) from cell_of hV 2))
  have H0:=HDn.out _ MD
  refine Drawn.start (fun V=>V.heap[W.heap.size]?=some (deedO k a s pa ln pc)) (fun _=>false) (by kernel_rfl) ?_
  generalize World.drew _=V9 at MD H0 ⊢
  refine Drawn.tk 0 (some 49) (v:=?_) rfl rfl (by kernel_rfl) rfl (fun _ _ _ h=>h) (Or.inl ⟨rfl,?_⟩) H0 ?_
  rotate_left
  ·intro W hW; have hW:=HS.out W hW; go_simp; try with_reducible rfl
  simp only [put_list,List.set]
  refine Drawn.tk 1 (some 50) (v:=?_) rfl rfl (by kernel_rfl) rfl (fun _ _ _ h=>h) (Or.inl ⟨rfl,?_⟩) H0 ?_
  rotate_left
  ·intro W hW; have hW:=HS.out W hW; go_simp; try with_reducible rfl
  simp only [put_list,List.set]
  refine Drawn.tk 2 (some 51) (v:=?_) rfl rfl (by kernel_rfl) rfl (fun _ _ _ h=>h) (Or.inl ⟨rfl,?_⟩) H0 ?_
  rotate_left
  ·intro W hW; have hW:=HS.out W hW; go_simp; try with_reducible rfl
  simp only [put_list,List.set]
  refine Drawn.tk 4 (some 53) (v:=?_) rfl rfl (by kernel_rfl) rfl (fun _ _ _ h=>h) (Or.inl ⟨rfl,?_⟩) H0 ?_
  rotate_left
  ·intro W hW; have hW:=HS.out W hW; go_simp; try with_reducible rfl
  simp only [put_list,List.set]
  refine Drawn.tk 5 (some 54) (v:=?_) rfl rfl (by kernel_rfl) rfl (fun _ _ _ h=>h) (Or.inl ⟨rfl,?_⟩) H0 ?_
  rotate_left
  ·intro W hW; have hW:=HS.out W hW; go_simp; try with_reducible rfl
  simp only [put_list,List.set]
  refine Drawn.tk 6 (some 55) (v:=?_) rfl rfl (by kernel_rfl) rfl (fun _ _ _ h=>h) (Or.inl ⟨rfl,?_⟩) H0 ?_
  rotate_left
  ·intro W hW; have hW:=HS.out W hW; go_simp; try with_reducible rfl
  simp only [put_list,List.set]
  refine Drawn.tk 7 (some 56) (v:=?_) rfl rfl (by kernel_rfl) rfl (fun _ _ _ h=>h) (Or.inl ⟨rfl,?_⟩) H0 ?_
  rotate_left
  ·intro W hW; have hW:=HS.out W hW; go_simp; try with_reducible rfl
  simp only [put_list,List.set]
  refine Drawn.tk 8 (some 57) (v:=?_) rfl rfl (by kernel_rfl) rfl (fun _ _ _ h=>h) (Or.inl ⟨rfl,?_⟩) H0 ?_
  rotate_left
  ·intro W hW; have hW:=HS.out W hW; go_simp; try with_reducible rfl
  simp only [put_list,List.set]
  refine Drawn.among [3,13] (by kernel_rfl) (by decide) ?_
  intro i hi
  simp only [List.mem_cons,List.not_mem_nil,or_false] at hi
  rcases hi with rfl | rfl
  ·refine⟨_,rfl,rfl,fun K' hK=>?_⟩
   go_simp
   refine (AD.out _).mono ?_
   rintro e1 VA ⟨rfl,hb⟩
   replace MD:=MD.call hb
   replace H0:=HDn.out _ MD
   refine hK _ _ (fun _ _=>H0) ?_
   clear hK K' hb
   try simp only [put_list,List.set]
   refine Drawn.among [9,13] (by kernel_rfl) (by decide) ?_
   intro i hi
   simp only [List.mem_cons,List.not_mem_nil,or_false] at hi
   rcases hi with rfl | rfl
   ·refine⟨_,rfl,rfl,fun K' hK=>?_⟩
    go_simp
    refine (SL.out _ MD.one.it).mono ?_
    rintro e1 VB ⟨rfl,F2,sv2,av2,hB2,hC2⟩
    replace MD:=MD.left hB2.ob hC2
    replace H0:=HDn.out _ MD
    refine hK _ _ (fun _ _=>H0) ?_
    clear hK K' hB2 hC2
    try simp only [put_list,List.set]
    refine Drawn.tk 10 (some 48) (v:=?_) rfl rfl (by kernel_rfl) rfl (fun _ _ _ h=>h) (Or.inl ⟨rfl,?_⟩) H0 ?_
    rotate_left
    ·intro W hW; have hW:=HS.out W hW; go_simp; try with_reducible rfl
    simp only [put_list,List.set]
    refine Drawn.tk 11 (some 59) (v:=?_) rfl rfl (by kernel_rfl) rfl (fun _ _ _ h=>h) (Or.inl ⟨rfl,?_⟩) H0 ?_
    rotate_left
    ·intro W hW; have hW:=HS.out W hW; go_simp; try with_reducible rfl
    simp only [put_list,List.set]
    refine Drawn.tk 12 (some 60) (v:=?_) rfl rfl (by kernel_rfl) rfl (fun _ _ _ h=>h) (Or.inl ⟨rfl,?_⟩) H0 ?_
    rotate_left
    ·intro W hW; have hW:=HS.out W hW; go_simp; try with_reducible rfl
    simp only [put_list,List.set]
    refine Drawn.only 13 (by kernel_rfl) rfl rfl (fun K' hK=>?_)
    go_simp
    replace MD:=Tq.new MD (.cells #[.int .u64 0,.int .u64 0,.int .u64 0,.int .u64 0] 61 (0,0))
    replace H0:=HDn.out _ MD.tw
    refine hK _ _ (fun _ _=>H0) ?_
    clear hK K'
    obtain⟨q9,hq9⟩ : ∃ q,q=VB.heap.size:=⟨_,rfl⟩
    rw [← hq9] at MD ⊢
    clear hq9
    generalize World.alloc VB _=V8 at MD H0 ⊢
    try simp only [put_list,List.set]
    refine Drawn.only 14 (by kernel_rfl) rfl rfl (fun K' hK=>?_)
    have hbq:=MD.box
    obtain⟨⟨g0,g1,g2,g3⟩,e0,e1,e2,e3⟩:=cells4 hbq
    have HBQ:=Lib.hid hbq
    clear hbq
    go_simp
    replace MD:=MD.put (chg_set4 _ q9 (.int .u64 (l3 r9.value : Nat)) (.int .u64 (l2 r9.value : Nat)) (.int .u64 (l1 r9.value : Nat)) (.int .u64 (l0 r9.value : Nat))) (o':=wdR r9.value) (heap_set4 HBQ.out _ _ _ _)
    replace H0:=HDn.out _ MD.tw
    refine hK _ _ (fun _ _=>H0) ?_
    clear hK K' g0 g1 g2 g3 e0 e1 e2 e3 HBQ
    generalize World.setCell _ _ _=V7 at MD H0 ⊢
    try simp only [put_list,put_none,List.set]
    refine Drawn.tk 15 (some 12) (v:=?_) rfl rfl (by kernel_rfl) rfl (fun _ _ _ h=>h) (Or.inl ⟨rfl,?_⟩) H0 ?_
    rotate_left
    ·intro W hW; have hW:=HS.out W hW; go_simp; try with_reducible rfl
    simp only [put_list,List.set]
    refine Drawn.done (by kernel_rfl) ?_ _
    go_wp2_with fail
    go_meet
    case rel=>exact⟨q9,_,_,_,rfl,rfl,MD⟩
   ·refine⟨_,rfl,rfl,fun K' hK=>?_⟩
    go_simp
    replace MD:=Tq.new MD (.cells #[.int .u64 0,.int .u64 0,.int .u64 0,.int .u64 0] 61 (0,0))
    replace H0:=HDn.out _ MD.tw
    refine hK _ _ (fun _ _=>H0) ?_
    clear hK K'
    obtain⟨q9,hq9⟩ : ∃ q,q=VA.heap.size:=⟨_,rfl⟩
    rw [← hq9] at MD ⊢
    clear hq9
    generalize World.alloc VA _=V8 at MD H0 ⊢
    try simp only [put_list,List.set]
    refine Drawn.only 9 (by kernel_rfl) rfl rfl (fun K' hK=>?_)
    go_simp
    refine (SL.out _ MD.tw.one.it).mono ?_
    rintro e1 VB ⟨rfl,F2,sv2,av2,hB2,hC2⟩
    replace MD:=MD.left hB2.ob hC2
    replace H0:=HDn.out _ MD.tw
    refine hK _ _ (fun _ _=>H0) ?_
    clear hK K' hB2 hC2
    try simp only [put_list,List.set]
    refine Drawn.tk 10 (some 48) (v:=?_) rfl rfl (by kernel_rfl) rfl (fun _ _ _ h=>h) (Or.inl ⟨rfl,?_⟩) H0 ?_
    rotate_left
    ·intro W hW; have hW:=HS.out W hW; go_simp; try with_reducible rfl
    simp only [put_list,List.set]
    refine Drawn.tk 11 (some 59) (v:=?_) rfl rfl (by kernel_rfl) rfl (fun _ _ _ h=>h) (Or.inl ⟨rfl,?_⟩) H0 ?_
    rotate_left
    ·intro W hW; have hW:=HS.out W hW; go_simp; try with_reducible rfl
    simp only [put_list,List.set]
    refine Drawn.tk 12 (some 60) (v:=?_) rfl rfl (by kernel_rfl) rfl (fun _ _ _ h=>h) (Or.inl ⟨rfl,?_⟩) H0 ?_
    rotate_left
    ·intro W hW; have hW:=HS.out W hW; go_simp; try with_reducible rfl
    simp only [put_list,List.set]
    refine Drawn.only 14 (by kernel_rfl) rfl rfl (fun K' hK=>?_)
    have hbq:=MD.box
    obtain⟨⟨g0,g1,g2,g3⟩,e0,e1,e2,e3⟩:=cells4 hbq
    have HBQ:=Lib.hid hbq
    clear hbq
    go_simp
    replace MD:=MD.put (chg_set4 _ q9 (.int .u64 (l3 r9.value : Nat)) (.int .u64 (l2 r9.value : Nat)) (.int .u64 (l1 r9.value : Nat)) (.int .u64 (l0 r9.value : Nat))) (o':=wdR r9.value) (heap_set4 HBQ.out _ _ _ _)
    replace H0:=HDn.out _ MD.tw
    refine hK _ _ (fun _ _=>H0) ?_
    clear hK K' g0 g1 g2 g3 e0 e1 e2 e3 HBQ
    generalize World.setCell _ _ _=V7 at MD H0 ⊢
    try simp only [put_list,put_none,List.set]
    refine Drawn.tk 15 (some 12) (v:=?_) rfl rfl (by kernel_rfl) rfl (fun _ _ _ h=>h) (Or.inl ⟨rfl,?_⟩) H0 ?_
    rotate_left
    ·intro W hW; have hW:=HS.out W hW; go_simp; try with_reducible rfl
    simp only [put_list,List.set]
    refine Drawn.done (by kernel_rfl) ?_ _
    go_wp2_with fail
    go_meet
    case rel=>exact⟨q9,_,_,_,rfl,rfl,MD⟩
  ·refine⟨_,rfl,rfl,fun K' hK=>?_⟩
   go_simp
   replace MD:=Tq.new MD (.cells #[.int .u64 0,.int .u64 0,.int .u64 0,.int .u64 0] 61 (0,0))
   replace H0:=HDn.out _ MD.tw
   refine hK _ _ (fun _ _=>H0) ?_
   clear hK K'
   obtain⟨q9,hq9⟩ : ∃ q,q=V9.heap.size:=⟨_,rfl⟩
   rw [← hq9] at MD ⊢
   clear hq9
   generalize World.alloc V9 _=V8 at MD H0 ⊢
   try simp only [put_list,List.set]
   refine Drawn.only 3 (by kernel_rfl) rfl rfl (fun K' hK=>?_)
   go_simp
   refine (AD.out _).mono ?_
   rintro e1 VA ⟨rfl,hb⟩
   replace MD:=MD.call hb
   replace H0:=HDn.out _ MD.tw
   refine hK _ _ (fun _ _=>H0) ?_
   clear hK K' hb
   try simp only [put_list,List.set]
   refine Drawn.only 9 (by kernel_rfl) rfl rfl (fun K' hK=>?_)
   go_simp
   refine (SL.out _ MD.tw.one.it).mono ?_
   rintro e1 VB ⟨rfl,F2,sv2,av2,hB2,hC2⟩
   replace MD:=MD.left hB2.ob hC2
   replace H0:=HDn.out _ MD.tw
   refine hK _ _ (fun _ _=>H0) ?_
   clear hK K' hB2 hC2
   try simp only [put_list,List.set]
   refine Drawn.tk 10 (some 48) (v:=?_) rfl rfl (by kernel_rfl) rfl (fun _ _ _ h=>h) (Or.inl ⟨rfl,?_⟩) H0 ?_
   rotate_left
   ·intro W hW; have hW:=HS.out W hW; go_simp; try with_reducible rfl
   simp only [put_list,List.set]
   refine Drawn.tk 11 (some 59) (v:=?_) rfl rfl (by kernel_rfl) rfl (fun _ _ _ h=>h) (Or.inl ⟨rfl,?_⟩) H0 ?_
   rotate_left
   ·intro W hW; have hW:=HS.out W hW; go_simp; try with_reducible rfl
   simp only [put_list,List.set]
   refine Drawn.tk 12 (some 60) (v:=?_) rfl rfl (by kernel_rfl) rfl (fun _ _ _ h=>h) (Or.inl ⟨rfl,?_⟩) H0 ?_
   rotate_left
   ·intro W hW; have hW:=HS.out W hW; go_simp; try with_reducible rfl
   simp only [put_list,List.set]
   refine Drawn.only 14 (by kernel_rfl) rfl rfl (fun K' hK=>?_)
   have hbq:=MD.box
   obtain⟨⟨g0,g1,g2,g3⟩,e0,e1,e2,e3⟩:=cells4 hbq
   have HBQ:=Lib.hid hbq
   clear hbq
   go_simp
   replace MD:=MD.put (chg_set4 _ q9 (.int .u64 (l3 r9.value : Nat)) (.int .u64 (l2 r9.value : Nat)) (.int .u64 (l1 r9.value : Nat)) (.int .u64 (l0 r9.value : Nat))) (o':=wdR r9.value) (heap_set4 HBQ.out _ _ _ _)
   replace H0:=HDn.out _ MD.tw
   refine hK _ _ (fun _ _=>H0) ?_
   clear hK K' g0 g1 g2 g3 e0 e1 e2 e3 HBQ
   generalize World.setCell _ _ _=V7 at MD H0 ⊢
   try simp only [put_list,put_none,List.set]
   refine Drawn.tk 15 (some 12) (v:=?_) rfl rfl (by kernel_rfl) rfl (fun _ _ _ h=>h) (Or.inl ⟨rfl,?_⟩) H0 ?_
   rotate_left
   ·intro W hW; have hW:=HS.out W hW; go_simp; try with_reducible rfl
   simp only [put_list,List.set]
   refine Drawn.done (by kernel_rfl) ?_ _
   go_wp2_with fail
   go_meet
   case rel=>exact⟨q9,_,_,_,rfl,rfl,MD⟩
 case rest=>
  obtain⟨q11,F2,sv2,av2,rfl,rfl,MQ⟩:=hcut
  generalize wc=W1 at MQ ⊢
  have h5:=HDn.out _ MQ.tw
  have HM3:=Lib.hid MQ.hold
  have HMQ:=Lib.hid MQ
  have HD2:=Lib.hid (fun V {Pc Rc : World→Prop} {fc gc : Nat→Prop} (M:Tw2 Pc fc Rc gc (fun k=>(X k∨k=W.heap.size)∨k=q11) W1 V)=>M.at (Or.inl (Or.inr rfl)) h5)
  clear MQ HM SL h5
  go_upto_region 10 with fail
  go_cut [13,14] from 61 (fun pp gg wx=>∃ q13 v5 cv5 sv5 av5,pp=.pointer (some ⟨q13,0,none⟩)∧gg=.int .i64 e9∧Tq (Bo p9 c9 nmC d (N+4) F2 b m sv2 av2) (ftB F2 b m sv2 av2) (RAt p9 c9 nmC e v5 b' cv5 sv5 av5 (c9.asked.length+1)) (ftR e v5 b' cv5 sv5 av5) (fun k=>(X k∨k=W.heap.size)∨k=q11) W1 q13 (wdR r9.value) wx)
  case first=>
   have MD:=HM3.out.call (Below.refl _ _).drew
   have HS:=Lib.hid (fun (V:World) (hV:V.heap[W.heap.size]?=some (deedO k a s pa ln pc))=>And.intro (show V.cell? ⟨W.heap.size,1,none⟩=some (.int .u8 a) from cell_of hV 1) (show V.cell? ⟨W.heap.size,2,none⟩=some (.int .u8 s) from cell_of hV 2))
   have H0:=HD2.out _ MD
   refine Drawn.start (fun V=>V.heap[W.heap.size]?=some (deedO k a s pa ln pc)) (fun _=>false) (by kernel_rfl) ?_
   generalize World.drew _=V9 at MD H0 ⊢
   refine Drawn.tk 0 (some 62) (v:=?_) rfl rfl (by kernel_rfl) rfl (fun _ _ _ h=>h) (Or.inl ⟨rfl,?_⟩) H0 ?_
   rotate_left
   ·intro W hW; have hW:=HS.out W hW; go_simp; try with_reducible rfl
   simp only [put_list,List.set]
   refine Drawn.tk 1 (some 63) (v:=?_) rfl rfl (by kernel_rfl) rfl (fun _ _ _ h=>h) (Or.inl ⟨rfl,?_⟩) H0 ?_
   rotate_left
   ·intro W hW; have hW:=HS.out W hW; go_simp; try with_reducible rfl
   simp only [put_list,List.set]
   refine Drawn.tk 2 (some 64) (v:=?_) rfl rfl (by kernel_rfl) rfl (fun _ _ _ h=>h) (Or.inl ⟨rfl,?_⟩) H0 ?_
   rotate_left
   ·intro W hW; have hW:=HS.out W hW; go_simp; try with_reducible rfl
   simp only [put_list,List.set]
   refine Drawn.tk 4 (some 66) (v:=?_) rfl rfl (by kernel_rfl) rfl (fun _ _ _ h=>h) (Or.inl ⟨rfl,?_⟩) H0 ?_
   rotate_left
   ·intro W hW; have hW:=HS.out W hW; go_simp; try with_reducible rfl
   simp only [put_list,List.set]
   refine Drawn.tk 5 (some 67) (v:=?_) rfl rfl (by kernel_rfl) rfl (fun _ _ _ h=>h) (Or.inl ⟨rfl,?_⟩) H0 ?_
   rotate_left
   ·intro W hW; have hW:=HS.out W hW; go_simp; try with_reducible rfl
   simp only [put_list,List.set]
   refine Drawn.tk 6 (some 68) (v:=?_) rfl rfl (by kernel_rfl) rfl (fun _ _ _ h=>h) (Or.inl ⟨rfl,?_⟩) H0 ?_
   rotate_left
   ·intro W hW; have hW:=HS.out W hW; go_simp; try with_reducible rfl
   simp only [put_list,List.set]
   refine Drawn.tk 7 (some 69) (v:=?_) rfl rfl (by kernel_rfl) rfl (fun _ _ _ h=>h) (Or.inl ⟨rfl,?_⟩) H0 ?_
   rotate_left
   ·intro W hW; have hW:=HS.out W hW; go_simp; try with_reducible rfl
   simp only [put_list,List.set]
   refine Drawn.tk 8 (some 70) (v:=?_) rfl rfl (by kernel_rfl) rfl (fun _ _ _ h=>h) (Or.inl ⟨rfl,?_⟩) H0 ?_
   rotate_left
   ·intro W hW; have hW:=HS.out W hW; go_simp; try with_reducible rfl
   simp only [put_list,List.set]
   refine Drawn.among [3,13] (by kernel_rfl) (by decide) ?_
   intro i hi
   simp only [List.mem_cons,List.not_mem_nil,or_false] at hi
   rcases hi with rfl | rfl
   ·refine⟨_,rfl,rfl,fun K' hK=>?_⟩
    go_simp
    refine (AD.out _).mono ?_
    rintro e1 VA ⟨rfl,hb⟩
    replace MD:=MD.call hb
    replace H0:=HD2.out _ MD
    refine hK _ _ (fun _ _=>H0) ?_
    clear hK K' hb
    try simp only [put_list,List.set]
    refine Drawn.among [9,13] (by kernel_rfl) (by decide) ?_
    intro i hi
    simp only [List.mem_cons,List.not_mem_nil,or_false] at hi
    rcases hi with rfl | rfl
    ·refine⟨_,rfl,rfl,fun K' hK=>?_⟩
     go_simp
     refine (SR.out _ MD.two.it).mono ?_
     rintro e1 VB ⟨rfl,v5,cv5,sv5,av5,hr5,hc5⟩
     replace MD:=MD.right hr5.ob hc5
     replace H0:=HD2.out _ MD
     refine hK _ _ (fun _ _=>H0) ?_
     clear hK K' hr5 hc5
     try simp only [put_list,List.set]
     refine Drawn.tk 10 (some 61) (v:=?_) rfl rfl (by kernel_rfl) rfl (fun _ _ _ h=>h) (Or.inl ⟨rfl,?_⟩) H0 ?_
     rotate_left
     ·intro W hW; have hW:=HS.out W hW; go_simp; try with_reducible rfl
     simp only [put_list,List.set]
     refine Drawn.tk 11 (some 72) (v:=?_) rfl rfl (by kernel_rfl) rfl (fun _ _ _ h=>h) (Or.inl ⟨rfl,?_⟩) H0 ?_
     rotate_left
     ·intro W hW; have hW:=HS.out W hW; go_simp; try with_reducible rfl
     simp only [put_list,List.set]
     refine Drawn.tk 12 (some 73) (v:=?_) rfl rfl (by kernel_rfl) rfl (fun _ _ _ h=>h) (Or.inl ⟨rfl,?_⟩) H0 ?_
     rotate_left
     ·intro W hW; have hW:=HS.out W hW; go_simp; try with_reducible rfl
     simp only [put_list,List.set]
     refine Drawn.only 13 (by kernel_rfl) rfl rfl (fun K' hK=>?_)
     go_simp
     replace MD:=Tq.new MD (.cells #[.int .u64 0,.int .u64 0,.int .u64 0,.int .u64 0] 61 (0,0))
     replace H0:=HD2.out _ MD.tw
     refine hK _ _ (fun _ _=>H0) ?_
     clear hK K'
     obtain⟨q9,hq9⟩ : ∃ q,q=VB.heap.size:=⟨_,rfl⟩
     rw [← hq9] at MD ⊢
     clear hq9
     generalize World.alloc VB _=V8 at MD H0 ⊢
     try simp only [put_list,List.set]
     refine Drawn.only 14 (by kernel_rfl) rfl rfl (fun K' hK=>?_)
     have hbq:=MD.box
     obtain⟨⟨g0,g1,g2,g3⟩,e0,e1,e2,e3⟩:=cells4 hbq
     have HBQ:=Lib.hid hbq
     clear hbq
     go_simp
     replace MD:=MD.put (chg_set4 _ q9 (.int .u64 (l3 r9.value : Nat)) (.int .u64 (l2 r9.value : Nat)) (.int .u64 (l1 r9.value : Nat)) (.int .u64 (l0 r9.value : Nat))) (o':=wdR r9.value) (heap_set4 HBQ.out _ _ _ _)
     replace H0:=HD2.out _ MD.tw
     refine hK _ _ (fun _ _=>H0) ?_
     clear hK K' g0 g1 g2 g3 e0 e1 e2 e3 HBQ
     generalize World.setCell _ _ _=V7 at MD H0 ⊢
     try simp only [put_list,put_none,List.set]
     refine Drawn.tk 15 (some 14) (v:=?_) rfl rfl (by kernel_rfl) rfl (fun _ _ _ h=>h) (Or.inl ⟨rfl,?_⟩) H0 ?_
     rotate_left
     ·intro W hW; have hW:=HS.out W hW; go_simp; try with_reducible rfl
     simp only [put_list,List.set]
     refine Drawn.done (by kernel_rfl) ?_ _
     go_wp2_with fail
     go_meet
     case rel=>exact⟨q9,_,_,_,_,rfl,rfl,MD⟩
    ·refine⟨_,rfl,rfl,fun K' hK=>?_⟩
     go_simp
     replace MD:=Tq.new MD (.cells #[.int .u64 0,.int .u64 0,.int .u64 0,.int .u64 0] 61 (0,0))
     replace H0:=HD2.out _ MD.tw
     refine hK _ _ (fun _ _=>H0) ?_
     clear hK K'
     obtain⟨q9,hq9⟩ : ∃ q,q=VA.heap.size:=⟨_,rfl⟩
     rw [← hq9] at MD ⊢
     clear hq9
     generalize World.alloc VA _=V8 at MD H0 ⊢
     try simp only [put_list,List.set]
     refine Drawn.only 9 (by kernel_rfl) rfl rfl (fun K' hK=>?_)
     go_simp
     refine (SR.out _ MD.tw.two.it).mono ?_
     rintro e1 VB ⟨rfl,v5,cv5,sv5,av5,hr5,hc5⟩
     replace MD:=MD.right hr5.ob hc5
     replace H0:=HD2.out _ MD.tw
     refine hK _ _ (fun _ _=>H0) ?_
     clear hK K' hr5 hc5
     try simp only [put_list,List.set]
     refine Drawn.tk 10 (some 61) (v:=?_) rfl rfl (by kernel_rfl) rfl (fun _ _ _ h=>h) (Or.inl ⟨rfl,?_⟩) H0 ?_
     rotate_left
     ·intro W hW; have hW:=HS.out W hW; go_simp; try with_reducible rfl
     simp only [put_list,List.set]
     refine Drawn.tk 11 (some 72) (v:=?_) rfl rfl (by kernel_rfl) rfl (fun _ _ _ h=>h) (Or.inl ⟨rfl,?_⟩) H0 ?_
     rotate_left
     ·intro W hW; have hW:=HS.out W hW; go_simp; try with_reducible rfl
     simp only [put_list,List.set]
     refine Drawn.tk 12 (some 73) (v:=?_) rfl rfl (by kernel_rfl) rfl (fun _ _ _ h=>h) (Or.inl ⟨rfl,?_⟩) H0 ?_
     rotate_left
     ·intro W hW; have hW:=HS.out W hW; go_simp; try with_reducible rfl
     simp only [put_list,List.set]
     refine Drawn.only 14 (by kernel_rfl) rfl rfl (fun K' hK=>?_)
     have hbq:=MD.box
     obtain⟨⟨g0,g1,g2,g3⟩,e0,e1,e2,e3⟩:=cells4 hbq
     have HBQ:=Lib.hid hbq
     clear hbq
     go_simp
     replace MD:=MD.put (chg_set4 _ q9 (.int .u64 (l3 r9.value : Nat)) (.int .u64 (l2 r9.value : Nat)) (.int .u64 (l1 r9.value : Nat)) (.int .u64 (l0 r9.value : Nat))) (o':=wdR r9.value) (heap_set4 HBQ.out _ _ _ _)
     replace H0:=HD2.out _ MD.tw
     refine hK _ _ (fun _ _=>H0) ?_
     clear hK K' g0 g1 g2 g3 e0 e1 e2 e3 HBQ
     generalize World.setCell _ _ _=V7 at MD H0 ⊢
     try simp only [put_list,put_none,List.set]
     refine Drawn.tk 15 (some 14) (v:=?_) rfl rfl (by kernel_rfl) rfl (fun _ _ _ h=>h) (Or.inl ⟨rfl,?_⟩) H0 ?_
     rotate_left
     ·intro W hW; have hW:=HS.out W hW; go_simp; try with_reducible rfl
     simp only [put_list,List.set]
     refine Drawn.done (by kernel_rfl) ?_ _
     go_wp2_with fail
     go_meet
     case rel=>exact⟨q9,_,_,_,_,rfl,rfl,MD⟩
   ·refine⟨_,rfl,rfl,fun K' hK=>?_⟩
    go_simp
    replace MD:=Tq.new MD (.cells #[.int .u64 0,.int .u64 0,.int .u64 0,.int .u64 0] 61 (0,0))
    replace H0:=HD2.out _ MD.tw
    refine hK _ _ (fun _ _=>H0) ?_
    clear hK K'
    obtain⟨q9,hq9⟩ : ∃ q,q=V9.heap.size:=⟨_,rfl⟩
    rw [← hq9] at MD ⊢
    clear hq9
    generalize World.alloc V9 _=V8 at MD H0 ⊢
    try simp only [put_list,List.set]
    refine Drawn.only 3 (by kernel_rfl) rfl rfl (fun K' hK=>?_)
    go_simp
    refine (AD.out _).mono ?_
    rintro e1 VA ⟨rfl,hb⟩
    replace MD:=MD.call hb
    replace H0:=HD2.out _ MD.tw
    refine hK _ _ (fun _ _=>H0) ?_
    clear hK K' hb
    try simp only [put_list,List.set]
    refine Drawn.only 9 (by kernel_rfl) rfl rfl (fun K' hK=>?_)
    go_simp
    refine (SR.out _ MD.tw.two.it).mono ?_
    rintro e1 VB ⟨rfl,v5,cv5,sv5,av5,hr5,hc5⟩
    replace MD:=MD.right hr5.ob hc5
    replace H0:=HD2.out _ MD.tw
    refine hK _ _ (fun _ _=>H0) ?_
    clear hK K' hr5 hc5
    try simp only [put_list,List.set]
    refine Drawn.tk 10 (some 61) (v:=?_) rfl rfl (by kernel_rfl) rfl (fun _ _ _ h=>h) (Or.inl ⟨rfl,?_⟩) H0 ?_
    rotate_left
    ·intro W hW; have hW:=HS.out W hW; go_simp; try with_reducible rfl
    simp only [put_list,List.set]
    refine Drawn.tk 11 (some 72) (v:=?_) rfl rfl (by kernel_rfl) rfl (fun _ _ _ h=>h) (Or.inl ⟨rfl,?_⟩) H0 ?_
    rotate_left
    ·intro W hW; have hW:=HS.out W hW; go_simp; try with_reducible rfl
    simp only [put_list,List.set]
    refine Drawn.tk 12 (some 73) (v:=?_) rfl rfl (by kernel_rfl) rfl (fun _ _ _ h=>h) (Or.inl ⟨rfl,?_⟩) H0 ?_
    rotate_left
    ·intro W hW; have hW:=HS.out W hW; go_simp; try with_reducible rfl
    simp only [put_list,List.set]
    refine Drawn.only 14 (by kernel_rfl) rfl rfl (fun K' hK=>?_)
    have hbq:=MD.box
    obtain⟨⟨g0,g1,g2,g3⟩,e0,e1,e2,e3⟩:=cells4 hbq
    have HBQ:=Lib.hid hbq
    clear hbq
    go_simp
    replace MD:=MD.put (chg_set4 _ q9 (.int .u64 (l3 r9.value : Nat)) (.int .u64 (l2 r9.value : Nat)) (.int .u64 (l1 r9.value : Nat)) (.int .u64 (l0 r9.value : Nat))) (o':=wdR r9.value) (heap_set4 HBQ.out _ _ _ _)
    replace H0:=HD2.out _ MD.tw
    refine hK _ _ (fun _ _=>H0) ?_
    clear hK K' g0 g1 g2 g3 e0 e1 e2 e3 HBQ
    generalize World.setCell _ _ _=V7 at MD H0 ⊢
    try simp only [put_list,put_none,List.set]
    refine Drawn.tk 15 (some 14) (v:=?_) rfl rfl (by kernel_rfl) rfl (fun _ _ _ h=>h) (Or.inl ⟨rfl,?_⟩) H0 ?_
    rotate_left
    ·intro W hW; have hW:=HS.out W hW; go_simp; try with_reducible rfl
    simp only [put_list,List.set]
    refine Drawn.done (by kernel_rfl) ?_ _
    go_wp2_with fail
    go_meet
    case rel=>exact⟨q9,_,_,_,_,rfl,rfl,MD⟩
  case rest=>
   obtain⟨q13,v5,cv5,sv5,av5,rfl,rfl,MR⟩:=hcut
   obtain⟨⟨y0,y1,y2,y3⟩,_⟩:=cells4 (MR.tw.at (k:=q11) (Or.inr rfl) HMQ.out.box)
   obtain⟨⟨z0,z1,z2,z3⟩,_⟩:=cells4 MR.box
   have HMR:=Lib.hid MR.tw
   clear MR HM3 SR
   go_wp2_with fail
   go_ret
   have M8:=HMQ.out.tw.unhold HMR.out
   rw [HW0.out] at M8
   exact⟨rfl,_,_,_,_,_,_,_,_,HU.out.unbox M8⟩
set_option maxRecDepth 100000 in
set_option maxHeartbeats 8000000 in
theorem does_slot3 (h:Tw2 (Bo p c nmC d N F b m sv av) (ftB F b m sv av) (RAt p c nmC e v b' cv sv' av' (c.asked.length+1)) (ftR e v b' cv sv' av') X V0 W) (hK:KOk c.known) (hp:p.Ok) (hB:Fit 1000 p c) (hN:N<900000) {k a s : Nat} (ha:a<256) (hk:k % 5=3) (l:List ToldP) (pa:Option Addr) (ln pc : Nat) :
  Calls Tryz.prog 20 #[.pointer (some ⟨b,0,none⟩),.pointer (some ⟨b',0,none⟩),.agg (deedC k a s pa ln pc)] W fun e1 W'=>DoesR (deedP p c k a s l).1 (deedP p c k a s l).2 X V0 (N+4) d b e b' e1 W':=by
 have hki : (k:Int) % 5=3:=by omega
 have hdp : deedP p c k a s l=(askP nmC p c ⟨0,addrP a,s % 4,2⟩).2:=by unfold deedP; rw [if_neg (by omega),if_pos (by omega)]
 have hs4 : s % 4<4:=Nat.mod_lt _ (by omega)
 have hw9 : s % 4<W256:=Nat.lt_of_lt_of_le hs4 (by decide)
 obtain⟨W0,hW0⟩ : ∃ W0,W0=W.alloc (deedO k a s pa ln pc):=⟨_,rfl⟩
 have H1:=h.box (deedO k a s pa ln pc)
 rw [← hW0] at H1
 have hbx : W0.heap[W.heap.size]?=some (deedO k a s pa ln pc):=by rw [hW0]; exact heap_alloc_new _ _
 have HU:=Lib.hid h
 have SL:=Lib.hid (fun V (hV:Bo p c nmC d N F b m sv av V)=>slot_c hV (addrP a) (s % 4) hw9 (by have:=hB.asked; omega) hN (by show (1:Nat)≤1000000; omega))
 have SR:=Lib.hid (fun V (hV:RAt p c nmC e v b' cv sv' av' (c.asked.length+1) V)=>rslot_c hV rfl hp (by have:=hB.few; omega) hK (by have:=hB.known; omega) (by have:=hB.asked; omega) (addrP a) (s % 4) hw9)
 rw [word_small hs4] at SL SR
 have AD:=Lib.hid (fun V=>address_c a ha V)
 rw [hdp]
 generalize askP nmC p c ⟨0,addrP a,s % 4,2⟩=res at *
 obtain⟨⟨r9,e9⟩,p9,c9⟩:=res
 simp only at SL SR ⊢
 obtain⟨s4,hs5⟩ : ∃ s4,s4=s % 4:=⟨_,rfl⟩
 rw [← hs5] at SL SR hs4
 have hsi : (s:Int) % 4=(s4:Int):=by omega
 have hst : (s:Int).tmod 4=(s4:Int):=by rw [Int.tmod_eq_emod_of_nonneg (by omega)]; exact hsi
 have hw8 : IntKind.u64.wrap (s4:Int)=(s4:Int):=by rw [IntKind.wrap_u64]; omega
 have EW:=eq_wdR r9.value
 unfold valC at SL SR
 clear hdp hK hp hB hN ha hs5 hs4 hw9
 have HM:=Lib.hid H1
 have HDn:=Lib.hid (fun V {Pc Rc : World→Prop} {fc gc : Nat→Prop} (M:Tw2 Pc fc Rc gc (fun k=>X k∨k=W.heap.size) W0 V)=>M.at (Or.inr rfl) hbx)
 obtain⟨⟨x0,_⟩,_⟩:=cells4 hbx
 have HW0:=Lib.hid hW0
 unfold deedC
 clear h H1 hbx
 go_enter Tryz.func20,Tryz.ntmps20
 go_upto_region 1 with fail
 rw [show W.alloc (.cells #[.int .u8 k,.int .u8 a,.int .u8 s,.slice pa ln pc] 45)=W0 from HW0.out.symm]
 clear hW0
 go_upto_region 9 with fail
 try simp only [hki]
 go_cut [11,12] from 48 (fun pp gg wx=>∃ q11 F2 sv2 av2,pp=.pointer (some ⟨q11,0,none⟩)∧gg=.int .i64 e9∧Tq (Bo p9 c9 nmC d (N+4) F2 b m sv2 av2) (ftB F2 b m sv2 av2) (RAt p c nmC e v b' cv sv' av' (c.asked.length+1)) (ftR e v b' cv sv' av') (fun k=>X k∨k=W.heap.size) W0 q11 (wdR r9.value) wx)
 case first=>
  have MD:=HM.out.call (Below.refl _ _).drew
  have HS:=Lib.hid (fun (V:World) (hV:V.heap[W.heap.size]?=some (deedO k a s pa ln pc))=>And.intro (show V.cell? ⟨W.heap.size,1,none⟩=some (.int .u8 a) from cell_of hV 1) (show V.cell? ⟨W.heap.size,2,none⟩=some (.int .u8 s) from cell_of hV 2))
  have H0:=HDn.out _ MD
  refine Drawn.start (fun V=>V.heap[W.heap.size]?=some (deedO k a s pa ln pc)) (fun _=>false) (by kernel_rfl) ?_
  generalize World.drew _=V9 at MD H0 ⊢
  refine Drawn.tk 0 (some 49) (v:=?_) rfl rfl (by kernel_rfl) rfl (fun _ _ _ h=>h) (Or.inl ⟨rfl,?_⟩) H0 ?_
  rotate_left
  ·intro W hW; have hW:=HS.out W hW; go_simp; try with_reducible rfl
  simp only [put_list,List.set]
  refine Drawn.tk 1 (some 50) (v:=?_) rfl rfl (by kernel_rfl) rfl (fun _ _ _ h=>h) (Or.inl ⟨rfl,?_⟩) H0 ?_
  rotate_left
  ·intro W hW; have hW:=HS.out W hW; go_simp; try with_reducible rfl
  simp only [put_list,List.set]
  refine Drawn.tk 2 (some 51) (v:=?_) rfl rfl (by kernel_rfl) rfl (fun _ _ _ h=>h) (Or.inl ⟨rfl,?_⟩) H0 ?_
  rotate_left
  ·intro W hW; have hW:=HS.out W hW; go_simp; try with_reducible rfl
  simp only [put_list,List.set]
  refine Drawn.tk 4 (some 53) (v:=?_) rfl rfl (by kernel_rfl) rfl (fun _ _ _ h=>h) (Or.inl ⟨rfl,?_⟩) H0 ?_
  rotate_left
  ·intro W hW; have hW:=HS.out W hW; go_simp; try with_reducible rfl
  simp only [put_list,List.set]
  refine Drawn.tk 5 (some 54) (v:=?_) rfl rfl (by kernel_rfl) rfl (fun _ _ _ h=>h) (Or.inl ⟨rfl,?_⟩) H0 ?_
  rotate_left
  ·intro W hW; have hW:=HS.out W hW; go_simp; try with_reducible rfl
  simp only [put_list,List.set]
  refine Drawn.tk 6 (some 55) (v:=?_) rfl rfl (by kernel_rfl) rfl (fun _ _ _ h=>h) (Or.inl ⟨rfl,?_⟩) H0 ?_
  rotate_left
  ·intro W hW; have hW:=HS.out W hW; go_simp; try with_reducible rfl
  simp only [put_list,List.set]
  refine Drawn.tk 7 (some 56) (v:=?_) rfl rfl (by kernel_rfl) rfl (fun _ _ _ h=>h) (Or.inl ⟨rfl,?_⟩) H0 ?_
  rotate_left
  ·intro W hW; have hW:=HS.out W hW; go_simp; try with_reducible rfl
  simp only [put_list,List.set]
  refine Drawn.tk 8 (some 57) (v:=?_) rfl rfl (by kernel_rfl) rfl (fun _ _ _ h=>h) (Or.inl ⟨rfl,?_⟩) H0 ?_
  rotate_left
  ·intro W hW; have hW:=HS.out W hW; go_simp; try with_reducible rfl
  simp only [put_list,List.set]
  refine Drawn.among [3,13] (by kernel_rfl) (by decide) ?_
  intro i hi
  simp only [List.mem_cons,List.not_mem_nil,or_false] at hi
  rcases hi with rfl | rfl
  ·refine⟨_,rfl,rfl,fun K' hK=>?_⟩
   go_simp
   refine (AD.out _).mono ?_
   rintro e1 VA ⟨rfl,hb⟩
   replace MD:=MD.call hb
   replace H0:=HDn.out _ MD
   refine hK _ _ (fun _ _=>H0) ?_
   clear hK K' hb
   try simp only [put_list,List.set]
   refine Drawn.among [9,13] (by kernel_rfl) (by decide) ?_
   intro i hi
   simp only [List.mem_cons,List.not_mem_nil,or_false] at hi
   rcases hi with rfl | rfl
   ·refine⟨_,rfl,rfl,fun K' hK=>?_⟩
    go_simp
    refine (SL.out _ MD.one.it).mono ?_
    rintro e1 VB ⟨rfl,F2,sv2,av2,hB2,hC2⟩
    replace MD:=MD.left hB2.ob hC2
    replace H0:=HDn.out _ MD
    refine hK _ _ (fun _ _=>H0) ?_
    clear hK K' hB2 hC2
    try simp only [put_list,List.set]
    refine Drawn.tk 10 (some 48) (v:=?_) rfl rfl (by kernel_rfl) rfl (fun _ _ _ h=>h) (Or.inl ⟨rfl,?_⟩) H0 ?_
    rotate_left
    ·intro W hW; have hW:=HS.out W hW; go_simp; try with_reducible rfl
    simp only [put_list,List.set]
    refine Drawn.tk 11 (some 59) (v:=?_) rfl rfl (by kernel_rfl) rfl (fun _ _ _ h=>h) (Or.inl ⟨rfl,?_⟩) H0 ?_
    rotate_left
    ·intro W hW; have hW:=HS.out W hW; go_simp; try with_reducible rfl
    simp only [put_list,List.set]
    refine Drawn.tk 12 (some 60) (v:=?_) rfl rfl (by kernel_rfl) rfl (fun _ _ _ h=>h) (Or.inl ⟨rfl,?_⟩) H0 ?_
    rotate_left
    ·intro W hW; have hW:=HS.out W hW; go_simp; try with_reducible rfl
    simp only [put_list,List.set]
    refine Drawn.only 13 (by kernel_rfl) rfl rfl (fun K' hK=>?_)
    go_simp
    replace MD:=Tq.new MD (.cells #[.int .u64 0,.int .u64 0,.int .u64 0,.int .u64 0] 61 (0,0))
    replace H0:=HDn.out _ MD.tw
    refine hK _ _ (fun _ _=>H0) ?_
    clear hK K'
    obtain⟨q9,hq9⟩ : ∃ q,q=VB.heap.size:=⟨_,rfl⟩
    rw [← hq9] at MD ⊢
    clear hq9
    generalize World.alloc VB _=V8 at MD H0 ⊢
    try simp only [put_list,List.set]
    refine Drawn.only 14 (by kernel_rfl) rfl rfl (fun K' hK=>?_)
    have hbq:=MD.box
    obtain⟨⟨g0,g1,g2,g3⟩,e0,e1,e2,e3⟩:=cells4 hbq
    have HBQ:=Lib.hid hbq
    clear hbq
    go_simp
    replace MD:=MD.put (chg_set4 _ q9 (.int .u64 (l3 r9.value : Nat)) (.int .u64 (l2 r9.value : Nat)) (.int .u64 (l1 r9.value : Nat)) (.int .u64 (l0 r9.value : Nat))) (o':=wdR r9.value) (heap_set4 HBQ.out _ _ _ _)
    replace H0:=HDn.out _ MD.tw
    refine hK _ _ (fun _ _=>H0) ?_
    clear hK K' g0 g1 g2 g3 e0 e1 e2 e3 HBQ
    generalize World.setCell _ _ _=V7 at MD H0 ⊢
    try simp only [put_list,put_none,List.set]
    refine Drawn.tk 15 (some 12) (v:=?_) rfl rfl (by kernel_rfl) rfl (fun _ _ _ h=>h) (Or.inl ⟨rfl,?_⟩) H0 ?_
    rotate_left
    ·intro W hW; have hW:=HS.out W hW; go_simp; try with_reducible rfl
    simp only [put_list,List.set]
    refine Drawn.done (by kernel_rfl) ?_ _
    go_wp2_with fail
    go_meet
    case rel=>exact⟨q9,_,_,_,rfl,rfl,MD⟩
   ·refine⟨_,rfl,rfl,fun K' hK=>?_⟩
    go_simp
    replace MD:=Tq.new MD (.cells #[.int .u64 0,.int .u64 0,.int .u64 0,.int .u64 0] 61 (0,0))
    replace H0:=HDn.out _ MD.tw
    refine hK _ _ (fun _ _=>H0) ?_
    clear hK K'
    obtain⟨q9,hq9⟩ : ∃ q,q=VA.heap.size:=⟨_,rfl⟩
    rw [← hq9] at MD ⊢
    clear hq9
    generalize World.alloc VA _=V8 at MD H0 ⊢
    try simp only [put_list,List.set]
    refine Drawn.only 9 (by kernel_rfl) rfl rfl (fun K' hK=>?_)
    go_simp
    refine (SL.out _ MD.tw.one.it).mono ?_
    rintro e1 VB ⟨rfl,F2,sv2,av2,hB2,hC2⟩
    replace MD:=MD.left hB2.ob hC2
    replace H0:=HDn.out _ MD.tw
    refine hK _ _ (fun _ _=>H0) ?_
    clear hK K' hB2 hC2
    try simp only [put_list,List.set]
    refine Drawn.tk 10 (some 48) (v:=?_) rfl rfl (by kernel_rfl) rfl (fun _ _ _ h=>h) (Or.inl ⟨rfl,?_⟩) H0 ?_
    rotate_left
    ·intro W hW; have hW:=HS.out W hW; go_simp; try with_reducible rfl
    simp only [put_list,List.set]
    refine Drawn.tk 11 (some 59) (v:=?_) rfl rfl (by kernel_rfl) rfl (fun _ _ _ h=>h) (Or.inl ⟨rfl,?_⟩) H0 ?_
    rotate_left
    ·intro W hW; have hW:=HS.out W hW; go_simp; try with_reducible rfl
    simp only [put_list,List.set]
    refine Drawn.tk 12 (some 60) (v:=?_) rfl rfl (by kernel_rfl) rfl (fun _ _ _ h=>h) (Or.inl ⟨rfl,?_⟩) H0 ?_
    rotate_left
    ·intro W hW; have hW:=HS.out W hW; go_simp; try with_reducible rfl
    simp only [put_list,List.set]
    refine Drawn.only 14 (by kernel_rfl) rfl rfl (fun K' hK=>?_)
    have hbq:=MD.box
    obtain⟨⟨g0,g1,g2,g3⟩,e0,e1,e2,e3⟩:=cells4 hbq
    have HBQ:=Lib.hid hbq
    clear hbq
    go_simp
    replace MD:=MD.put (chg_set4 _ q9 (.int .u64 (l3 r9.value : Nat)) (.int .u64 (l2 r9.value : Nat)) (.int .u64 (l1 r9.value : Nat)) (.int .u64 (l0 r9.value : Nat))) (o':=wdR r9.value) (heap_set4 HBQ.out _ _ _ _)
    replace H0:=HDn.out _ MD.tw
    refine hK _ _ (fun _ _=>H0) ?_
    clear hK K' g0 g1 g2 g3 e0 e1 e2 e3 HBQ
    generalize World.setCell _ _ _=V7 at MD H0 ⊢
    try simp only [put_list,put_none,List.set]
    refine Drawn.tk 15 (some 12) (v:=?_) rfl rfl (by kernel_rfl) rfl (fun _ _ _ h=>h) (Or.inl ⟨rfl,?_⟩) H0 ?_
    rotate_left
    ·intro W hW; have hW:=HS.out W hW; go_simp; try with_reducible rfl
    simp only [put_list,List.set]
    refine Drawn.done (by kernel_rfl) ?_ _
    go_wp2_with fail
    go_meet
    case rel=>exact⟨q9,_,_,_,rfl,rfl,MD⟩
  ·refine⟨_,rfl,rfl,fun K' hK=>?_⟩
   go_simp
   replace MD:=Tq.new MD (.cells #[.int .u64 0,.int .u64 0,.int .u64 0,.int .u64 0] 61 (0,0))
   replace H0:=HDn.out _ MD.tw
   refine hK _ _ (fun _ _=>H0) ?_
   clear hK K'
   obtain⟨q9,hq9⟩ : ∃ q,q=V9.heap.size:=⟨_,rfl⟩
   rw [← hq9] at MD ⊢
   clear hq9
   generalize World.alloc V9 _=V8 at MD H0 ⊢
   try simp only [put_list,List.set]
   refine Drawn.only 3 (by kernel_rfl) rfl rfl (fun K' hK=>?_)
   go_simp
   refine (AD.out _).mono ?_
   rintro e1 VA ⟨rfl,hb⟩
   replace MD:=MD.call hb
   replace H0:=HDn.out _ MD.tw
   refine hK _ _ (fun _ _=>H0) ?_
   clear hK K' hb
   try simp only [put_list,List.set]
   refine Drawn.only 9 (by kernel_rfl) rfl rfl (fun K' hK=>?_)
   go_simp
   refine (SL.out _ MD.tw.one.it).mono ?_
   rintro e1 VB ⟨rfl,F2,sv2,av2,hB2,hC2⟩
   replace MD:=MD.left hB2.ob hC2
   replace H0:=HDn.out _ MD.tw
   refine hK _ _ (fun _ _=>H0) ?_
   clear hK K' hB2 hC2
   try simp only [put_list,List.set]
   refine Drawn.tk 10 (some 48) (v:=?_) rfl rfl (by kernel_rfl) rfl (fun _ _ _ h=>h) (Or.inl ⟨rfl,?_⟩) H0 ?_
   rotate_left
   ·intro W hW; have hW:=HS.out W hW; go_simp; try with_reducible rfl
   simp only [put_list,List.set]
   refine Drawn.tk 11 (some 59) (v:=?_) rfl rfl (by kernel_rfl) rfl (fun _ _ _ h=>h) (Or.inl ⟨rfl,?_⟩) H0 ?_
   rotate_left
   ·intro W hW; have hW:=HS.out W hW; go_simp; try with_reducible rfl
   simp only [put_list,List.set]
   refine Drawn.tk 12 (some 60) (v:=?_) rfl rfl (by kernel_rfl) rfl (fun _ _ _ h=>h) (Or.inl ⟨rfl,?_⟩) H0 ?_
   rotate_left
   ·intro W hW; have hW:=HS.out W hW; go_simp; try with_reducible rfl
   simp only [put_list,List.set]
   refine Drawn.only 14 (by kernel_rfl) rfl rfl (fun K' hK=>?_)
   have hbq:=MD.box
   obtain⟨⟨g0,g1,g2,g3⟩,e0,e1,e2,e3⟩:=cells4 hbq
   have HBQ:=Lib.hid hbq
   clear hbq
   go_simp
   replace MD:=MD.put (chg_set4 _ q9 (.int .u64 (l3 r9.value : Nat)) (.int .u64 (l2 r9.value : Nat)) (.int .u64 (l1 r9.value : Nat)) (.int .u64 (l0 r9.value : Nat))) (o':=wdR r9.value) (heap_set4 HBQ.out _ _ _ _)
   replace H0:=HDn.out _ MD.tw
   refine hK _ _ (fun _ _=>H0) ?_
   clear hK K' g0 g1 g2 g3 e0 e1 e2 e3 HBQ
   generalize World.setCell _ _ _=V7 at MD H0 ⊢
   try simp only [put_list,put_none,List.set]
   refine Drawn.tk 15 (some 12) (v:=?_) rfl rfl (by kernel_rfl) rfl (fun _ _ _ h=>h) (Or.inl ⟨rfl,?_⟩) H0 ?_
   rotate_left
   ·intro W hW; have hW:=HS.out W hW; go_simp; try with_reducible rfl
   simp only [put_list,List.set]
   refine Drawn.done (by kernel_rfl) ?_ _
   go_wp2_with fail
   go_meet
   case rel=>exact⟨q9,_,_,_,rfl,rfl,MD⟩
 case rest=>
  obtain⟨q11,F2,sv2,av2,rfl,rfl,MQ⟩:=hcut
  generalize wc=W1 at MQ ⊢
  have h5:=HDn.out _ MQ.tw
  have HM3:=Lib.hid MQ.hold
  have HMQ:=Lib.hid MQ
  have HD2:=Lib.hid (fun V {Pc Rc : World→Prop} {fc gc : Nat→Prop} (M:Tw2 Pc fc Rc gc (fun k=>(X k∨k=W.heap.size)∨k=q11) W1 V)=>M.at (Or.inl (Or.inr rfl)) h5)
  clear MQ HM SL h5
  go_upto_region 10 with fail
  go_cut [13,14] from 61 (fun pp gg wx=>∃ q13 v5 cv5 sv5 av5,pp=.pointer (some ⟨q13,0,none⟩)∧gg=.int .i64 e9∧Tq (Bo p9 c9 nmC d (N+4) F2 b m sv2 av2) (ftB F2 b m sv2 av2) (RAt p9 c9 nmC e v5 b' cv5 sv5 av5 (c9.asked.length+1)) (ftR e v5 b' cv5 sv5 av5) (fun k=>(X k∨k=W.heap.size)∨k=q11) W1 q13 (wdR r9.value) wx)
  case first=>
   have MD:=HM3.out.call (Below.refl _ _).drew
   have HS:=Lib.hid (fun (V:World) (hV:V.heap[W.heap.size]?=some (deedO k a s pa ln pc))=>And.intro (show V.cell? ⟨W.heap.size,1,none⟩=some (.int .u8 a) from cell_of hV 1) (show V.cell? ⟨W.heap.size,2,none⟩=some (.int .u8 s) from cell_of hV 2))
   have H0:=HD2.out _ MD
   refine Drawn.start (fun V=>V.heap[W.heap.size]?=some (deedO k a s pa ln pc)) (fun _=>false) (by kernel_rfl) ?_
   generalize World.drew _=V9 at MD H0 ⊢
   refine Drawn.tk 0 (some 62) (v:=?_) rfl rfl (by kernel_rfl) rfl (fun _ _ _ h=>h) (Or.inl ⟨rfl,?_⟩) H0 ?_
   rotate_left
   ·intro W hW; have hW:=HS.out W hW; go_simp; try with_reducible rfl
   simp only [put_list,List.set]
   refine Drawn.tk 1 (some 63) (v:=?_) rfl rfl (by kernel_rfl) rfl (fun _ _ _ h=>h) (Or.inl ⟨rfl,?_⟩) H0 ?_
   rotate_left
   ·intro W hW; have hW:=HS.out W hW; go_simp; try with_reducible rfl
   simp only [put_list,List.set]
   refine Drawn.tk 2 (some 64) (v:=?_) rfl rfl (by kernel_rfl) rfl (fun _ _ _ h=>h) (Or.inl ⟨rfl,?_⟩) H0 ?_
   rotate_left
   ·intro W hW; have hW:=HS.out W hW; go_simp; try with_reducible rfl
   simp only [put_list,List.set]
   refine Drawn.tk 4 (some 66) (v:=?_) rfl rfl (by kernel_rfl) rfl (fun _ _ _ h=>h) (Or.inl ⟨rfl,?_⟩) H0 ?_
   rotate_left
   ·intro W hW; have hW:=HS.out W hW; go_simp; try with_reducible rfl
   simp only [put_list,List.set]
   refine Drawn.tk 5 (some 67) (v:=?_) rfl rfl (by kernel_rfl) rfl (fun _ _ _ h=>h) (Or.inl ⟨rfl,?_⟩) H0 ?_
   rotate_left
   ·intro W hW; have hW:=HS.out W hW; go_simp; try with_reducible rfl
   simp only [put_list,List.set]
   refine Drawn.tk 6 (some 68) (v:=?_) rfl rfl (by kernel_rfl) rfl (fun _ _ _ h=>h) (Or.inl ⟨rfl,?_⟩) H0 ?_
   rotate_left
   ·intro W hW; have hW:=HS.out W hW; go_simp; try with_reducible rfl
   simp only [put_list,List.set]
   refine Drawn.tk 7 (some 69) (v:=?_) rfl rfl (by kernel_rfl) rfl (fun _ _ _ h=>h) (Or.inl ⟨rfl,?_⟩) H0 ?_
   rotate_left
   ·intro W hW; have hW:=HS.out W hW; go_simp; try with_reducible rfl
   simp only [put_list,List.set]
   refine Drawn.tk 8 (some 70) (v:=?_) rfl rfl (by kernel_rfl) rfl (fun _ _ _ h=>h) (Or.inl ⟨rfl,?_⟩) H0 ?_
   rotate_left
   ·intro W hW; have hW:=HS.out W hW; go_simp; try with_reducible rfl
   simp only [put_list,List.set]
   refine Drawn.among [3,13] (by kernel_rfl) (by decide) ?_
   intro i hi
   simp only [List.mem_cons,List.not_mem_nil,or_false] at hi
   rcases hi with rfl | rfl
   ·refine⟨_,rfl,rfl,fun K' hK=>?_⟩
    go_simp
    refine (AD.out _).mono ?_
    rintro e1 VA ⟨rfl,hb⟩
    replace MD:=MD.call hb
    replace H0:=HD2.out _ MD
    refine hK _ _ (fun _ _=>H0) ?_
    clear hK K' hb
    try simp only [put_list,List.set]
    refine Drawn.among [9,13] (by kernel_rfl) (by decide) ?_
    intro i hi
    simp only [List.mem_cons,List.not_mem_nil,or_false] at hi
    rcases hi with rfl | rfl
    ·refine⟨_,rfl,rfl,fun K' hK=>?_⟩
     go_simp
     refine (SR.out _ MD.two.it).mono ?_
     rintro e1 VB ⟨rfl,v5,cv5,sv5,av5,hr5,hc5⟩
     replace MD:=MD.right hr5.ob hc5
     replace H0:=HD2.out _ MD
     refine hK _ _ (fun _ _=>H0) ?_
     clear hK K' hr5 hc5
     try simp only [put_list,List.set]
     refine Drawn.tk 10 (some 61) (v:=?_) rfl rfl (by kernel_rfl) rfl (fun _ _ _ h=>h) (Or.inl ⟨rfl,?_⟩) H0 ?_
     rotate_left
     ·intro W hW; have hW:=HS.out W hW; go_simp; try with_reducible rfl
     simp only [put_list,List.set]
     refine Drawn.tk 11 (some 72) (v:=?_) rfl rfl (by kernel_rfl) rfl (fun _ _ _ h=>h) (Or.inl ⟨rfl,?_⟩) H0 ?_
     rotate_left
     ·intro W hW; have hW:=HS.out W hW; go_simp; try with_reducible rfl
     simp only [put_list,List.set]
     refine Drawn.tk 12 (some 73) (v:=?_) rfl rfl (by kernel_rfl) rfl (fun _ _ _ h=>h) (Or.inl ⟨rfl,?_⟩) H0 ?_
     rotate_left
     ·intro W hW; have hW:=HS.out W hW; go_simp; try with_reducible rfl
     simp only [put_list,List.set]
     refine Drawn.only 13 (by kernel_rfl) rfl rfl (fun K' hK=>?_)
     go_simp
     replace MD:=Tq.new MD (.cells #[.int .u64 0,.int .u64 0,.int .u64 0,.int .u64 0] 61 (0,0))
     replace H0:=HD2.out _ MD.tw
     refine hK _ _ (fun _ _=>H0) ?_
     clear hK K'
     obtain⟨q9,hq9⟩ : ∃ q,q=VB.heap.size:=⟨_,rfl⟩
     rw [← hq9] at MD ⊢
     clear hq9
     generalize World.alloc VB _=V8 at MD H0 ⊢
     try simp only [put_list,List.set]
     refine Drawn.only 14 (by kernel_rfl) rfl rfl (fun K' hK=>?_)
     have hbq:=MD.box
     obtain⟨⟨g0,g1,g2,g3⟩,e0,e1,e2,e3⟩:=cells4 hbq
     have HBQ:=Lib.hid hbq
     clear hbq
     go_simp
     replace MD:=MD.put (chg_set4 _ q9 (.int .u64 (l3 r9.value : Nat)) (.int .u64 (l2 r9.value : Nat)) (.int .u64 (l1 r9.value : Nat)) (.int .u64 (l0 r9.value : Nat))) (o':=wdR r9.value) (heap_set4 HBQ.out _ _ _ _)
     replace H0:=HD2.out _ MD.tw
     refine hK _ _ (fun _ _=>H0) ?_
     clear hK K' g0 g1 g2 g3 e0 e1 e2 e3 HBQ
     generalize World.setCell _ _ _=V7 at MD H0 ⊢
     try simp only [put_list,put_none,List.set]
     refine Drawn.tk 15 (some 14) (v:=?_) rfl rfl (by kernel_rfl) rfl (fun _ _ _ h=>h) (Or.inl ⟨rfl,?_⟩) H0 ?_
     rotate_left
     ·intro W hW; have hW:=HS.out W hW; go_simp; try with_reducible rfl
     simp only [put_list,List.set]
     refine Drawn.done (by kernel_rfl) ?_ _
     go_wp2_with fail
     go_meet
     case rel=>exact⟨q9,_,_,_,_,rfl,rfl,MD⟩
    ·refine⟨_,rfl,rfl,fun K' hK=>?_⟩
     go_simp
     replace MD:=Tq.new MD (.cells #[.int .u64 0,.int .u64 0,.int .u64 0,.int .u64 0] 61 (0,0))
     replace H0:=HD2.out _ MD.tw
     refine hK _ _ (fun _ _=>H0) ?_
     clear hK K'
     obtain⟨q9,hq9⟩ : ∃ q,q=VA.heap.size:=⟨_,rfl⟩
     rw [← hq9] at MD ⊢
     clear hq9
     generalize World.alloc VA _=V8 at MD H0 ⊢
     try simp only [put_list,List.set]
     refine Drawn.only 9 (by kernel_rfl) rfl rfl (fun K' hK=>?_)
     go_simp
     refine (SR.out _ MD.tw.two.it).mono ?_
     rintro e1 VB ⟨rfl,v5,cv5,sv5,av5,hr5,hc5⟩
     replace MD:=MD.right hr5.ob hc5
     replace H0:=HD2.out _ MD.tw
     refine hK _ _ (fun _ _=>H0) ?_
     clear hK K' hr5 hc5
     try simp only [put_list,List.set]
     refine Drawn.tk 10 (some 61) (v:=?_) rfl rfl (by kernel_rfl) rfl (fun _ _ _ h=>h) (Or.inl ⟨rfl,?_⟩) H0 ?_
     rotate_left
     ·intro W hW; have hW:=HS.out W hW; go_simp; try with_reducible rfl
     simp only [put_list,List.set]
     refine Drawn.tk 11 (some 72) (v:=?_) rfl rfl (by kernel_rfl) rfl (fun _ _ _ h=>h) (Or.inl ⟨rfl,?_⟩) H0 ?_
     rotate_left
     ·intro W hW; have hW:=HS.out W hW; go_simp; try with_reducible rfl
     simp only [put_list,List.set]
     refine Drawn.tk 12 (some 73) (v:=?_) rfl rfl (by kernel_rfl) rfl (fun _ _ _ h=>h) (Or.inl ⟨rfl,?_⟩) H0 ?_
     rotate_left
     ·intro W hW; have hW:=HS.out W hW; go_simp; try with_reducible rfl
     simp only [put_list,List.set]
     refine Drawn.only 14 (by kernel_rfl) rfl rfl (fun K' hK=>?_)
     have hbq:=MD.box
     obtain⟨⟨g0,g1,g2,g3⟩,e0,e1,e2,e3⟩:=cells4 hbq
     have HBQ:=Lib.hid hbq
     clear hbq
     go_simp
     replace MD:=MD.put (chg_set4 _ q9 (.int .u64 (l3 r9.value : Nat)) (.int .u64 (l2 r9.value : Nat)) (.int .u64 (l1 r9.value : Nat)) (.int .u64 (l0 r9.value : Nat))) (o':=wdR r9.value) (heap_set4 HBQ.out _ _ _ _)
     replace H0:=HD2.out _ MD.tw
     refine hK _ _ (fun _ _=>H0) ?_
     clear hK K' g0 g1 g2 g3 e0 e1 e2 e3 HBQ
     generalize World.setCell _ _ _=V7 at MD H0 ⊢
     try simp only [put_list,put_none,List.set]
     refine Drawn.tk 15 (some 14) (v:=?_) rfl rfl (by kernel_rfl) rfl (fun _ _ _ h=>h) (Or.inl ⟨rfl,?_⟩) H0 ?_
     rotate_left
     ·intro W hW; have hW:=HS.out W hW; go_simp; try with_reducible rfl
     simp only [put_list,List.set]
     refine Drawn.done (by kernel_rfl) ?_ _
     go_wp2_with fail
     go_meet
     case rel=>exact⟨q9,_,_,_,_,rfl,rfl,MD⟩
   ·refine⟨_,rfl,rfl,fun K' hK=>?_⟩
    go_simp
    replace MD:=Tq.new MD (.cells #[.int .u64 0,.int .u64 0,.int .u64 0,.int .u64 0] 61 (0,0))
    replace H0:=HD2.out _ MD.tw
    refine hK _ _ (fun _ _=>H0) ?_
    clear hK K'
    obtain⟨q9,hq9⟩ : ∃ q,q=V9.heap.size:=⟨_,rfl⟩
    rw [← hq9] at MD ⊢
    clear hq9
    generalize World.alloc V9 _=V8 at MD H0 ⊢
    try simp only [put_list,List.set]
    refine Drawn.only 3 (by kernel_rfl) rfl rfl (fun K' hK=>?_)
    go_simp
    refine (AD.out _).mono ?_
    rintro e1 VA ⟨rfl,hb⟩
    replace MD:=MD.call hb
    replace H0:=HD2.out _ MD.tw
    refine hK _ _ (fun _ _=>H0) ?_
    clear hK K' hb
    try simp only [put_list,List.set]
    refine Drawn.only 9 (by kernel_rfl) rfl rfl (fun K' hK=>?_)
    go_simp
    refine (SR.out _ MD.tw.two.it).mono ?_
    rintro e1 VB ⟨rfl,v5,cv5,sv5,av5,hr5,hc5⟩
    replace MD:=MD.right hr5.ob hc5
    replace H0:=HD2.out _ MD.tw
    refine hK _ _ (fun _ _=>H0) ?_
    clear hK K' hr5 hc5
    try simp only [put_list,List.set]
    refine Drawn.tk 10 (some 61) (v:=?_) rfl rfl (by kernel_rfl) rfl (fun _ _ _ h=>h) (Or.inl ⟨rfl,?_⟩) H0 ?_
    rotate_left
    ·intro W hW; have hW:=HS.out W hW; go_simp; try with_reducible rfl
    simp only [put_list,List.set]
    refine Drawn.tk 11 (some 72) (v:=?_) rfl rfl (by kernel_rfl) rfl (fun _ _ _ h=>h) (Or.inl ⟨rfl,?_⟩) H0 ?_
    rotate_left
    ·intro W hW; have hW:=HS.out W hW; go_simp; try with_reducible rfl
    simp only [put_list,List.set]
    refine Drawn.tk 12 (some 73) (v:=?_) rfl rfl (by kernel_rfl) rfl (fun _ _ _ h=>h) (Or.inl ⟨rfl,?_⟩) H0 ?_
    rotate_left
    ·intro W hW; have hW:=HS.out W hW; go_simp; try with_reducible rfl
    simp only [put_list,List.set]
    refine Drawn.only 14 (by kernel_rfl) rfl rfl (fun K' hK=>?_)
    have hbq:=MD.box
    obtain⟨⟨g0,g1,g2,g3⟩,e0,e1,e2,e3⟩:=cells4 hbq
    have HBQ:=Lib.hid hbq
    clear hbq
    go_simp
    replace MD:=MD.put (chg_set4 _ q9 (.int .u64 (l3 r9.value : Nat)) (.int .u64 (l2 r9.value : Nat)) (.int .u64 (l1 r9.value : Nat)) (.int .u64 (l0 r9.value : Nat))) (o':=wdR r9.value) (heap_set4 HBQ.out _ _ _ _)
    replace H0:=HD2.out _ MD.tw
    refine hK _ _ (fun _ _=>H0) ?_
    clear hK K' g0 g1 g2 g3 e0 e1 e2 e3 HBQ
    generalize World.setCell _ _ _=V7 at MD H0 ⊢
    try simp only [put_list,put_none,List.set]
    refine Drawn.tk 15 (some 14) (v:=?_) rfl rfl (by kernel_rfl) rfl (fun _ _ _ h=>h) (Or.inl ⟨rfl,?_⟩) H0 ?_
    rotate_left
    ·intro W hW; have hW:=HS.out W hW; go_simp; try with_reducible rfl
    simp only [put_list,List.set]
    refine Drawn.done (by kernel_rfl) ?_ _
    go_wp2_with fail
    go_meet
    case rel=>exact⟨q9,_,_,_,_,rfl,rfl,MD⟩
  case rest=>
   obtain⟨q13,v5,cv5,sv5,av5,rfl,rfl,MR⟩:=hcut
   obtain⟨⟨y0,y1,y2,y3⟩,_⟩:=cells4 (MR.tw.at (k:=q11) (Or.inr rfl) HMQ.out.box)
   obtain⟨⟨z0,z1,z2,z3⟩,_⟩:=cells4 MR.box
   have HMR:=Lib.hid MR.tw
   clear MR HM3 SR
   go_wp2_with fail
   go_ret
   have M8:=HMQ.out.tw.unhold HMR.out
   rw [HW0.out] at M8
   exact⟨rfl,_,_,_,_,_,_,_,_,HU.out.unbox M8⟩
end
end Go.Proofs.YtekoaheiapddiaaGreat.Dz
end
