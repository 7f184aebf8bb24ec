/- Merged: Vk, Vl, Vm, Vn, Vp, Vq, Vr, Vo, Vs. -/
import Derived.Test.YtekoaheiapddiaaGreatM19
import Derived.Test.YtekoaheiapddiaaGreatM20
import Derived.Test.YtekoaheiapddiaaGreatM15
import Derived.Test.YtekoaheiapddiaaGreatM05
import Derived.Lib.ConvBytes
import Derived.StillTailTactics
section
namespace Go.Proofs.YtekoaheiapddiaaGreat
open Go.RowKit
theorem set11 {w : World} {b : Nat} {v0 v1 v2 v3 v4 v5 v6 v7 v8 v9 v10 : Value} {t : TypeId} (h:w.heap[b]?=some (.cells #[v0,v1,v2,v3,v4,v5,v6,v7,v8,v9,v10] t (0,0))) (u0 u1 u2 u3 u4 u5 u6 u7 u8 u9 u10 : Value) :
  (((((((((((w.setCell ⟨b,0,none⟩ u0).setCell ⟨b,1,none⟩ u1).setCell ⟨b,2,none⟩ u2).setCell ⟨b,3,none⟩ u3).setCell ⟨b,4,none⟩ u4).setCell ⟨b,5,none⟩ u5).setCell ⟨b,6,none⟩ u6).setCell ⟨b,7,none⟩ u7).setCell ⟨b,8,none⟩ u8).setCell ⟨b,9,none⟩ u9).setCell ⟨b,10,none⟩ u10).heap[b]?=some (.cells #[u0,u1,u2,u3,u4,u5,u6,u7,u8,u9,u10] t (0,0)):=by
 have e:=(heap_setCell_same _ _ 10 _ _ u10 (heap_setCell_same _ _ 9 _ _ u9 (heap_setCell_same _ _ 8 _ _ u8 (heap_setCell_same _ _ 7 _ _ u7 (heap_setCell_same _ _ 6 _ _ u6 (heap_setCell_same _ _ 5 _ _ u5 (heap_setCell_same _ _ 4 _ _ u4 (heap_setCell_same _ _ 3 _ _ u3 (heap_setCell_same _ _ 2 _ _ u2 (heap_setCell_same _ _ 1 _ _ u1 (heap_setCell_same _ _ 0 _ _ u0 h)))))))))))
 simpa using e
theorem cells11 {w : World} {b : Nat} {v0 v1 v2 v3 v4 v5 v6 v7 v8 v9 v10 : Value} {t : TypeId} (h:w.heap[b]?=some (.cells #[v0,v1,v2,v3,v4,v5,v6,v7,v8,v9,v10] t (0,0))) :
  (w.cell? ⟨b,0,none⟩=some v0∧w.cell? ⟨b,1,none⟩=some v1∧w.cell? ⟨b,2,none⟩=some v2∧w.cell? ⟨b,3,none⟩=some v3∧w.cell? ⟨b,4,none⟩=some v4∧w.cell? ⟨b,5,none⟩=some v5∧w.cell? ⟨b,6,none⟩=some v6∧w.cell? ⟨b,7,none⟩=some v7∧w.cell? ⟨b,8,none⟩=some v8∧w.cell? ⟨b,9,none⟩=some v9∧w.cell? ⟨b,10,none⟩=some v10)∧(w.frozen? ⟨b,0,none⟩=false∧w.frozen? ⟨b,1,none⟩=false∧w.frozen? ⟨b,2,none⟩=false∧w.frozen? ⟨b,3,none⟩=false∧w.frozen? ⟨b,4,none⟩=false∧w.frozen? ⟨b,5,none⟩=false∧w.frozen? ⟨b,6,none⟩=false∧w.frozen? ⟨b,7,none⟩=false∧w.frozen? ⟨b,8,none⟩=false∧w.frozen? ⟨b,9,none⟩=false∧w.frozen? ⟨b,10,none⟩=false):=
 ⟨⟨cell_of h 0,cell_of h 1,cell_of h 2,cell_of h 3,cell_of h 4,cell_of h 5,cell_of h 6,cell_of h 7,cell_of h 8,cell_of h 9,cell_of h 10⟩,free_of h 0,free_of h 1,free_of h 2,free_of h 3,free_of h 4,free_of h 5,free_of h 6,free_of h 7,free_of h 8,free_of h 9,free_of h 10⟩
theorem Only.set11 {may : Nat→Prop} {B b : Nat} {a w : World} (h:Only may B a w) (hb:B≤b) (u0 u1 u2 u3 u4 u5 u6 u7 u8 u9 u10 : Value) : Only may B a (((((((((((w.setCell ⟨b,0,none⟩ u0).setCell ⟨b,1,none⟩ u1).setCell ⟨b,2,none⟩ u2).setCell ⟨b,3,none⟩ u3).setCell ⟨b,4,none⟩ u4).setCell ⟨b,5,none⟩ u5).setCell ⟨b,6,none⟩ u6).setCell ⟨b,7,none⟩ u7).setCell ⟨b,8,none⟩ u8).setCell ⟨b,9,none⟩ u9).setCell ⟨b,10,none⟩ u10):=
 (((((((((((h.setCell (p:=⟨b,0,none⟩) (Or.inl hb) u0).setCell (p:=⟨b,1,none⟩) (Or.inl hb) u1).setCell (p:=⟨b,2,none⟩) (Or.inl hb) u2).setCell (p:=⟨b,3,none⟩) (Or.inl hb) u3).setCell (p:=⟨b,4,none⟩) (Or.inl hb) u4).setCell (p:=⟨b,5,none⟩) (Or.inl hb) u5).setCell (p:=⟨b,6,none⟩) (Or.inl hb) u6).setCell (p:=⟨b,7,none⟩) (Or.inl hb) u7).setCell (p:=⟨b,8,none⟩) (Or.inl hb) u8).setCell (p:=⟨b,9,none⟩) (Or.inl hb) u9).setCell (p:=⟨b,10,none⟩) (Or.inl hb) u10)
theorem Below.set11 {B b : Nat} {a w : World} (h:Below B a w) (hb:B≤b) (u0 u1 u2 u3 u4 u5 u6 u7 u8 u9 u10 : Value) : Below B a (((((((((((w.setCell ⟨b,0,none⟩ u0).setCell ⟨b,1,none⟩ u1).setCell ⟨b,2,none⟩ u2).setCell ⟨b,3,none⟩ u3).setCell ⟨b,4,none⟩ u4).setCell ⟨b,5,none⟩ u5).setCell ⟨b,6,none⟩ u6).setCell ⟨b,7,none⟩ u7).setCell ⟨b,8,none⟩ u8).setCell ⟨b,9,none⟩ u9).setCell ⟨b,10,none⟩ u10):=
 (((((((((((h.setCell (p:=⟨b,0,none⟩) hb u0).setCell (p:=⟨b,1,none⟩) hb u1).setCell (p:=⟨b,2,none⟩) hb u2).setCell (p:=⟨b,3,none⟩) hb u3).setCell (p:=⟨b,4,none⟩) hb u4).setCell (p:=⟨b,5,none⟩) hb u5).setCell (p:=⟨b,6,none⟩) hb u6).setCell (p:=⟨b,7,none⟩) hb u7).setCell (p:=⟨b,8,none⟩) hb u8).setCell (p:=⟨b,9,none⟩) hb u9).setCell (p:=⟨b,10,none⟩) hb u10)
theorem wordO_len {f r : Fo} {v : Value} (h:wordO f=some (v,r)) : r.enc.length≤f.enc.length:=by
 cases f with
 | nil=>cases h
 | list i q=>simp only [wordO,Option.some.injEq,Prod.mk.injEq] at h; obtain⟨_,rfl⟩:=h; simp only [Fo.enc,List.length_append]; omega
 | text s q=>
  simp only [wordO] at h
  split at h
  ·simp only [Option.some.injEq,Prod.mk.injEq] at h; obtain⟨_,rfl⟩:=h; simp only [Fo.enc,List.length_append]; omega
  ·cases h
def RepR (kind:Int) (g:Nat) (f:Fo) (w:World) (e:Ending) (w' : World) : Prop:=
 Only (fun k=>k=g) w.heap.size w w'∧((e=.panicked boom∧∀ b : ReplyP,b.Wf→b.Ok kind→f≠b.fo kind)∨∃ a : ReplyP,e=.returned (replyV a)∧a.Wf∧∀ b : ReplyP,b.Wf→b.Ok kind→f=b.fo kind→a=b)
theorem RepR.bad {kind : Int} {g : Nat} {f : Fo} {w w' : World} {e : Ending} (h1:Only (fun k=>k=g) w.heap.size w w') (h2:e=.panicked boom) (h3:∀ b : ReplyP,b.Wf→b.Ok kind→f≠b.fo kind) : RepR kind g f w e w':=⟨h1,Or.inl ⟨h2,h3⟩⟩
theorem RepR.good {kind : Int} {g : Nat} {f : Fo} {w w' : World} {e : Ending} (a:ReplyP) (h1:Only (fun k=>k=g) w.heap.size w w') (h2:e=.returned (replyV a)) (h3:a.Wf) (h4:∀ b : ReplyP,b.Wf→b.Ok kind→f=b.fo kind→a=b) : RepR kind g f w e w':=⟨h1,Or.inr ⟨a,h2,h3,h4⟩⟩
theorem rep1_steps {b : ReplyP} (hw:b.Wf) : numO (b.fo 1)=some (.int .u64 b.id,.text (num b.nonce) (.text (wordL b.bal) (.text b.code .nil)))∧numO (.text (num b.nonce) (.text (wordL b.bal) (.text b.code .nil)))=some (.int .u64 b.nonce,.text (wordL b.bal) (.text b.code .nil)) ∧
  wordO (.text (wordL b.bal) (.text b.code .nil))=some (wordV b.bal,.text b.code .nil)∧textO (.text b.code .nil)=some (.string (str b.code),.nil):=
 ⟨numO_num hw.id _,numO_num hw.nonce _,wordO_word hw.bal _,rfl⟩
theorem rep2_steps {b : ReplyP} {kind : Int} (hk:kind≠1) (hw:b.Wf) : numO (b.fo kind)=some (.int .u64 b.id,.text (wordL b.value) .nil)∧wordO (.text (wordL b.value) .nil)=some (wordV b.value,.nil):=by
 refine⟨?_,wordO_word hw.value _⟩
 unfold ReplyP.fo
 rw [if_neg hk]
 exact numO_num hw.id _
set_option maxRecDepth 100000 in
set_option maxHeartbeats 4000000 in
theorem account_c {S : Nat→Prop} {g : Nat} {f : Fo} {w : World} (h:Fd S g f w) (hl:f.enc.length≤70000) : Calls Tryz.prog 151 #[fN g,fT g,fW g] w fun e w'=>RepR 1 g f w e w':=by
 have G0:=Lib.hid (Gt.start h #[.int .u64 0,.int .u64 0,.int .u64 0,.int .u64 0,.int .u64 0,.int .u64 0,.string ⟨#[]⟩,.int .u64 0,.int .u64 0,.int .u64 0,.int .u64 0] 119)
 have HL:=Lib.hid hl
 have eN:=enterN
 have eT:=enterT
 have eW:=enterW
 clear h hl
 unfold fN fT fW
 go_enter Tryz.func151,Tryz.ntmps151
 go_wp2_with fail
 refine (number_f G0.out.fd HL.out).mono ?_
 rintro e w1 ⟨ho,h1⟩
 cases e1 : numO f with
 | none=>
  rw [e1] at h1
  obtain rfl : e=.panicked boom:=h1
  exact⟨rfl,RepR.bad (G0.out.only.trans (ho.mono G0.out.only.size (fun _ _ k=>k))) rfl (fun b hw hb hf=>by
    rw [hf,(rep1_steps hw).1] at e1; cases e1)⟩
 | some q=>
  obtain⟨v1,f1⟩:=q
  rw [e1] at h1
  obtain⟨rfl,hf1⟩:=h1
  obtain⟨n1,rfl,hn1,hl1⟩:=numO_some e1
  have G1:=Lib.hid (G0.out.step ho hf1)
  have HL1:=Lib.hid (show f1.enc.length≤70000 by have:=HL.out; omega)
  have E1:=Lib.hid e1
  have HN1:=Lib.hid hn1; clear hn1
  clear ho hf1 hl1 e1 G0
  go_wp2_with fail
  refine (number_f G1.out.fd HL1.out).mono ?_
  rintro e w2 ⟨ho,h1⟩
  cases e2 : numO f1 with
  | none=>
   rw [e2] at h1
   obtain rfl : e=.panicked boom:=h1
   exact⟨rfl,RepR.bad (G1.out.only.trans (ho.mono G1.out.only.size (fun _ _ k=>k))) rfl (fun b hw hb hf=>by
     have h1:=E1.out
     rw [hf,(rep1_steps hw).1] at h1
     simp only [Option.some.injEq,Prod.mk.injEq] at h1
     rw [← h1.2,(rep1_steps hw).2.1] at e2; cases e2)⟩
  | some q=>
   obtain⟨v2,f2⟩:=q
   rw [e2] at h1
   obtain⟨rfl,hf1⟩:=h1
   obtain⟨n2,rfl,hn2,hl1⟩:=numO_some e2
   have G2:=Lib.hid (G1.out.step ho hf1)
   have HL2:=Lib.hid (show f2.enc.length≤70000 by have:=HL1.out; omega)
   have E2:=Lib.hid e2
   have HN2:=Lib.hid hn2; clear hn2
   clear ho hf1 hl1 e2 G1
   go_wp2_with fail
   refine (word_f G2.out.fd HL2.out).mono ?_
   rintro e w3 ⟨ho,h1⟩
   cases e3 : wordO f2 with
   | none=>
    rw [e3] at h1
    obtain rfl : e=.panicked boom:=h1
    exact⟨rfl,RepR.bad (G2.out.only.trans (ho.mono G2.out.only.size (fun _ _ k=>k))) rfl (fun b hw hb hf=>by
      have h1:=E1.out
      rw [hf,(rep1_steps hw).1] at h1
      simp only [Option.some.injEq,Prod.mk.injEq] at h1
      have h2:=E2.out
      rw [← h1.2,(rep1_steps hw).2.1] at h2
      simp only [Option.some.injEq,Prod.mk.injEq] at h2
      rw [← h2.2,(rep1_steps hw).2.2.1] at e3; cases e3)⟩
   | some q=>
    obtain⟨v3,f3⟩:=q
    rw [e3] at h1
    obtain⟨rfl,hf1⟩:=h1
    obtain⟨n3,rfl,hn3⟩:=wordO_some e3; have hl1:=wordO_len e3
    have G3:=Lib.hid (G2.out.step ho hf1)
    have HL3:=Lib.hid (show f3.enc.length≤70000 by have:=HL2.out; omega)
    have E3:=Lib.hid e3
    have HN3:=Lib.hid hn3; clear hn3
    clear ho hf1 hl1 e3 G2
    unfold wordV
    go_wp2_with fail
    refine (text_f G3.out.fd HL3.out).mono ?_
    rintro e w4 ⟨ho,h1⟩
    cases e4 : textO f3 with
    | none=>
     rw [e4] at h1
     obtain rfl : e=.panicked boom:=h1
     exact⟨rfl,RepR.bad (G3.out.only.trans (ho.mono G3.out.only.size (fun _ _ k=>k))) rfl (fun b hw hb hf=>by
       have h1:=E1.out
       rw [hf,(rep1_steps hw).1] at h1
       simp only [Option.some.injEq,Prod.mk.injEq] at h1
       have h2:=E2.out
       rw [← h1.2,(rep1_steps hw).2.1] at h2
       simp only [Option.some.injEq,Prod.mk.injEq] at h2
       have h3:=E3.out
       rw [← h2.2,(rep1_steps hw).2.2.1] at h3
       simp only [Option.some.injEq,Prod.mk.injEq] at h3
       rw [← h3.2,(rep1_steps hw).2.2.2] at e4; cases e4)⟩
    | some q=>
     obtain⟨v4,f4⟩:=q
     rw [e4] at h1
     obtain⟨rfl,hf1⟩:=h1
     obtain⟨t4,rfl,hl1⟩:=textO_some e4
     have G4:=Lib.hid (G3.out.step ho hf1)
     have HL4:=Lib.hid (show f4.enc.length≤70000 by have:=HL3.out; omega)
     have E4:=Lib.hid e4
     skip
     clear ho hf1 hl1 e4 G3
     obtain⟨⟨b0,b1,b2,b3,b4,b5,b6,b7,b8,b9,b10⟩,y0,y1,y2,y3,y4,y5,y6,y7,y8,y9,y10⟩:=cells11 G4.out.box
     have HF:=Lib.hid (And.intro G4.out.box G4.out.only)
     clear G4
     try unfold wordV
     go_wp2_with fail
     refine bodyPost_ret (results_cell_row Tryz.results151 _ _ _ _ _ _ _ rfl (set11 HF.out.1 _ _ _ _ _ _ _ _ _ _ _) Tryz.underlying119 rfl (by kernel_rfl)) rfl (RepR.good ⟨n1,n2,n3,t4,0⟩ (HF.out.2.set11 (Nat.le_refl _) _ _ _ _ _ _ _ _ _ _ _) (by unfold replyV; simp [lim_zero]; try rfl) ⟨HN1.out,HN2.out,HN3.out,(show 0<W256 by decide)⟩ ?_)
     intro b hw hb hf
     have h1:=E1.out
     rw [hf,(rep1_steps hw).1] at h1
     simp only [Option.some.injEq,Prod.mk.injEq] at h1
     have h2:=E2.out
     rw [← h1.2,(rep1_steps hw).2.1] at h2
     simp only [Option.some.injEq,Prod.mk.injEq] at h2
     have h3:=E3.out
     rw [← h2.2,(rep1_steps hw).2.2.1] at h3
     simp only [Option.some.injEq,Prod.mk.injEq] at h3
     have h4:=E4.out
     rw [← h3.2,(rep1_steps hw).2.2.2] at h4
     simp only [Option.some.injEq,Prod.mk.injEq] at h4
     have q1 : n1=b.id:=by have:=h1.1; simp only [Value.int.injEq,true_and,Int.natCast_inj] at this; exact this.symm
     have q2 : n2=b.nonce:=by have:=h2.1; simp only [Value.int.injEq,true_and,Int.natCast_inj] at this; exact this.symm
     have q3:=wordV_inj HN3.out hw.bal h3.1.symm
     have q4 : t4=b.code:=by have:=h4.1; simp only [Value.string.injEq] at this; exact (str_inj this).symm
     have q5 : b.value=0:=by rcases hb.2 with h | h; exact h.2; exact absurd h.1 (by decide)
     obtain⟨i,nn,bl,cd,vl⟩:=b
     simp only at q1 q2 q3 q4 q5
     rw [q1,q2,q3,q4,q5]
set_option maxRecDepth 100000 in
set_option maxHeartbeats 4000000 in
theorem value_c {S : Nat→Prop} {g : Nat} {f : Fo} {w : World} {kind : Int} (hk:kind≠1) (h:Fd S g f w) (hl:f.enc.length≤70000) : Calls Tryz.prog 150 #[fN g,fT g,fW g] w fun e w'=>RepR kind g f w e w':=by
 have G0:=Lib.hid (Gt.start h #[.int .u64 0,.int .u64 0,.int .u64 0,.int .u64 0,.int .u64 0,.int .u64 0,.string ⟨#[]⟩,.int .u64 0,.int .u64 0,.int .u64 0,.int .u64 0] 119)
 have HL:=Lib.hid hl
 have eN:=enterN
 have eT:=enterT
 have eW:=enterW
 clear h hl
 unfold fN fT fW
 go_enter Tryz.func150,Tryz.ntmps150
 go_wp2_with fail
 refine (number_f G0.out.fd HL.out).mono ?_
 rintro e w1 ⟨ho,h1⟩
 cases e1 : numO f with
 | none=>
  rw [e1] at h1
  obtain rfl : e=.panicked boom:=h1
  exact⟨rfl,RepR.bad (G0.out.only.trans (ho.mono G0.out.only.size (fun _ _ k=>k))) rfl (fun b hw hb hf=>by
    rw [hf,(rep2_steps hk hw).1] at e1; cases e1)⟩
 | some q=>
  obtain⟨v1,f1⟩:=q
  rw [e1] at h1
  obtain⟨rfl,hf1⟩:=h1
  obtain⟨n1,rfl,hn1,hl1⟩:=numO_some e1
  have G1:=Lib.hid (G0.out.step ho hf1)
  have HL1:=Lib.hid (show f1.enc.length≤70000 by have:=HL.out; omega)
  have E1:=Lib.hid e1
  have HN1:=Lib.hid hn1; clear hn1
  clear ho hf1 hl1 e1 G0
  go_wp2_with fail
  refine (word_f G1.out.fd HL1.out).mono ?_
  rintro e w2 ⟨ho,h1⟩
  cases e2 : wordO f1 with
  | none=>
   rw [e2] at h1
   obtain rfl : e=.panicked boom:=h1
   exact⟨rfl,RepR.bad (G1.out.only.trans (ho.mono G1.out.only.size (fun _ _ k=>k))) rfl (fun b hw hb hf=>by
     have h1:=E1.out
     rw [hf,(rep2_steps hk hw).1] at h1
     simp only [Option.some.injEq,Prod.mk.injEq] at h1
     rw [← h1.2,(rep2_steps hk hw).2] at e2; cases e2)⟩
  | some q=>
   obtain⟨v2,f2⟩:=q
   rw [e2] at h1
   obtain⟨rfl,hf1⟩:=h1
   obtain⟨n2,rfl,hn2⟩:=wordO_some e2; have hl1:=wordO_len e2
   have G2:=Lib.hid (G1.out.step ho hf1)
   have HL2:=Lib.hid (show f2.enc.length≤70000 by have:=HL1.out; omega)
   have E2:=Lib.hid e2
   have HN2:=Lib.hid hn2; clear hn2
   clear ho hf1 hl1 e2 G1
   obtain⟨⟨b0,b1,b2,b3,b4,b5,b6,b7,b8,b9,b10⟩,y0,y1,y2,y3,y4,y5,y6,y7,y8,y9,y10⟩:=cells11 G2.out.box
   have HF:=Lib.hid (And.intro G2.out.box G2.out.only)
   clear G2
   try unfold wordV
   go_wp2_with fail
   refine bodyPost_ret (results_cell_row Tryz.results150 _ _ _ _ _ _ _ rfl (set11 HF.out.1 _ _ _ _ _ _ _ _ _ _ _) Tryz.underlying119 rfl (by kernel_rfl)) rfl (RepR.good ⟨n1,0,0,[],n2⟩ (HF.out.2.set11 (Nat.le_refl _) _ _ _ _ _ _ _ _ _ _ _) (by unfold replyV; simp [lim_zero]; try rfl) ⟨HN1.out,(show 0<M64 by decide),(show 0<W256 by decide),HN2.out⟩ ?_)
   intro b hw hb hf
   have h1:=E1.out
   rw [hf,(rep2_steps hk hw).1] at h1
   simp only [Option.some.injEq,Prod.mk.injEq] at h1
   have h2:=E2.out
   rw [← h1.2,(rep2_steps hk hw).2] at h2
   simp only [Option.some.injEq,Prod.mk.injEq] at h2
   have q1 : n1=b.id:=by have:=h1.1; simp only [Value.int.injEq,true_and,Int.natCast_inj] at this; exact this.symm
   have q3:=wordV_inj HN2.out hw.value h2.1.symm
   have q5 : b.nonce=0∧b.bal=0∧b.code=[]:=by rcases hb.2 with h | h; exact absurd h.1 hk; exact h.2
   obtain⟨i,nn,bl,cd,vl⟩:=b
   simp only at q1 q3 q5
   rw [q1,q3,q5.1,q5.2.1,q5.2.2]
end Go.Proofs.YtekoaheiapddiaaGreat
end
section
namespace Go.Proofs.YtekoaheiapddiaaGreat
open Go.RowKit
set_option maxRecDepth 100000 in
set_option maxHeartbeats 2000000 in
theorem rcatch_panicking (a b : Nat) (v0 v1 v2 v3 v4 v5 v6 v7 v8 v9 v10 v : Value) (u:TypeId) (pv:Value) (older:List PanicEntry) (w:World) (ha:w.heap[a]?=some (.cells #[v0,v1,v2,v3,v4,v5,v6,v7,v8,v9,v10] 119 (0,0))) (hb:w.heap[b]?=some (.cells #[v] 4 (0,0))) (hab:a≠b) :
  CallsD Tryz.prog 193 #[.pointer (some ⟨a,0,none⟩),.pointer (some ⟨b,0,none⟩)] (.panicking ({ v:=.iface u pv,recovered:=false } :: older)) w fun e u' w'=>
   e=.returned (.tuple #[])∧u'=.panicking ({ v:=.iface u pv,recovered:=true } :: older) ∧
    w'=((((((((((((w.alloc (.cells #[.int .u64 0,.int .u64 0,.int .u64 0,.int .u64 0,.int .u64 0,.int .u64 0,.string ⟨#[]⟩,.int .u64 0,.int .u64 0,.int .u64 0,.int .u64 0] 119)).setCell ⟨a,0,none⟩ (.int .u64 0)).setCell ⟨a,1,none⟩ (.int .u64 0)).setCell ⟨a,2,none⟩ (.int .u64 0)).setCell ⟨a,3,none⟩ (.int .u64 0)).setCell ⟨a,4,none⟩ (.int .u64 0)).setCell ⟨a,5,none⟩ (.int .u64 0)).setCell ⟨a,6,none⟩ (.string ⟨#[]⟩)).setCell ⟨a,7,none⟩ (.int .u64 0)).setCell ⟨a,8,none⟩ (.int .u64 0)).setCell ⟨a,9,none⟩ (.int .u64 0)).setCell ⟨a,10,none⟩ (.int .u64 0)).setCell ⟨b,0,none⟩ (.bool false):=by
 have ha':=(Below.heap_alloc w (.cells #[.int .u64 0,.int .u64 0,.int .u64 0,.int .u64 0,.int .u64 0,.int .u64 0,.string ⟨#[]⟩,.int .u64 0,.int .u64 0,.int .u64 0,.int .u64 0] 119) _ (lt_of ha)).trans ha
 have hb':=(Below.heap_alloc w (.cells #[.int .u64 0,.int .u64 0,.int .u64 0,.int .u64 0,.int .u64 0,.int .u64 0,.string ⟨#[]⟩,.int .u64 0,.int .u64 0,.int .u64 0,.int .u64 0] 119) _ (lt_of hb)).trans hb
 have hn:=heap_alloc_new w (.cells #[.int .u64 0,.int .u64 0,.int .u64 0,.int .u64 0,.int .u64 0,.int .u64 0,.string ⟨#[]⟩,.int .u64 0,.int .u64 0,.int .u64 0,.int .u64 0] 119)
 obtain⟨⟨c0,c1,c2,c3,c4,c5,c6,c7,c8,c9,c10⟩,z0,z1,z2,z3,z4,z5,z6,z7,z8,z9,z10⟩:=cells11 ha'
 obtain⟨⟨d0,d1,d2,d3,d4,d5,d6,d7,d8,d9,d10⟩,_⟩:=cells11 hn
 have cb:=cell_of hb' 0
 have zb:=free_of hb' 0
 refine callsD_of_wpS Tryz.func193 rfl fun c₀ cs hu=>?_
 apply wpS_seq
 apply wpS_region
 simp [wpOpsS,go_sem,recoverD,hu,Tryz.ntmps193,Exit.thenS]
 refine wpS_cond (t:=true) (by simp [Act.eval,Array.replicate]) ?_
 simp only [if_true]
 have cb' : (w.alloc (.cells #[.int .u64 0,.int .u64 0,.int .u64 0,.int .u64 0,.int .u64 0,.int .u64 0,.string ⟨#[]⟩,.int .u64 0,.int .u64 0,.int .u64 0,.int .u64 0] 119)).cell? ⟨b,0,none⟩=some v:=cb
 have hab' : ¬ b=a:=fun e=>hab e.symm
 clear ha hb ha' hb' hn
 first | apply wpS_seq | skip
 apply wpS_region
 simp [wpOpsS,go_sem,Exit.thenS]
 try apply wpS_region
 simp [wpOpsS,go_sem,c0,c1,c2,c3,c4,c5,c6,c7,c8,c9,c10,z0,z1,z2,z3,z4,z5,z6,z7,z8,z9,z10,d0,d1,d2,d3,d4,d5,d6,d7,d8,d9,d10,cb',zb,bodyPostS,results,Tryz.results193]
theorem rcatch_idle (p q : Value) (w:World) :
  CallsD Tryz.prog 193 #[p,q] .returning w fun e u' w'=>e=.returned (.tuple #[])∧u'=.returning∧w'=w:=by
 refine callsD_of_wpS Tryz.func193 rfl fun c₀ cs hu=>?_
 apply wpS_seq
 apply wpS_region
 simp [wpOpsS,go_sem,recoverD,hu,Tryz.ntmps193,Exit.thenS]
 refine wpS_cond (t:=false) (by simp [Act.eval,Array.replicate]) ?_
 simp only [Bool.false_eq_true,if_false]
 refine wpS_of_wp (wp_skip ?_)
 cases c₀
 simp_all [bodyPostS,results,Tryz.results193]
theorem rr_results (tmps:Array Value) (w:World) (a b : Nat) (v0 v1 v2 v3 v4 v5 v6 v7 v8 v9 v10 v : Value) (hp:tmps.getD 8 undef=.pointer (some ⟨a,0,none⟩)) (hq:tmps.getD 9 undef=.pointer (some ⟨b,0,none⟩)) (ha:w.heap[a]?=some (.cells #[v0,v1,v2,v3,v4,v5,v6,v7,v8,v9,v10] 119 (0,0))) (hb:w.heap[b]?=some (.cells #[v] 4 (0,0))) :
  (results Tryz.f152 tmps).run Tryz.prog w=.ok (.tuple #[.agg #[v0,v1,v2,v3,v4,v5,v6,v7,v8,v9,v10],v]) w:=by
 obtain⟨⟨c0,c1,c2,c3,c4,c5,c6,c7,c8,c9,c10⟩,_⟩:=cells11 ha
 have cb : w.cell? ⟨b,0,none⟩=some v:=cell_of hb 0
 have hp' : tmps[8]?.getD undef=.pointer (some ⟨a,0,none⟩):=by simpa using hp
 have hq' : tmps[9]?.getD undef=.pointer (some ⟨b,0,none⟩):=by simpa using hq
 simp [results,Tryz.results152,hp',hq',go_sem,c0,c1,c2,c3,c4,c5,c6,c7,c8,c9,c10,cb]
structure Rb (w:World) (cs:Array Value) (v:Value) (V:World) : Prop where
 below : Below w.heap.size w V
 got : V.heap[w.heap.size]?=some (.cells cs 119 (0,0))
 ok : V.heap[w.heap.size+1]?=some (.cells #[v] 4 (0,0))
section
variable {w V V' : World} {cs : Array Value} {v : Value}
theorem Rb.call (h:Rb w cs v V) (hb:Below V.heap.size V V') : Rb w cs v V':=⟨h.below.trans (hb.mono h.below.size),(hb.block _ (lt_of h.got)).trans h.got,(hb.block _ (lt_of h.ok)).trans h.ok⟩
theorem Rb.only {g : Nat} (h:Rb w cs v V) (hg:w.heap.size+1<g) (ho:Only (fun k=>k=g) V.heap.size V V') : Rb w cs v V':=
 ⟨h.below.trans (Only.below (ho.mono (B':=w.heap.size) h.below.size (fun _ _ k=>k)) (Nat.le_refl _) (fun k hk e=>by omega)),(ho.block _ (lt_of h.got) (by omega)).trans h.got,(ho.block _ (lt_of h.ok) (by omega)).trans h.ok⟩
theorem Rb.start (w:World) (cs:Array Value) (v:Value) : Rb w cs v ((w.alloc (.cells cs 119)).alloc (.cells #[v] 4)):=
 ⟨((Below.refl _ _).alloc (Nat.le_refl _) _).alloc (by simp) _,heap_alloc2_old w _ _,heap_alloc2_new w _ _⟩
theorem Rb.put {v0 v1 v2 v3 v4 v5 v6 v7 v8 v9 v10 : Value} (h:Rb w #[v0,v1,v2,v3,v4,v5,v6,v7,v8,v9,v10] v V) (u0 u1 u2 u3 u4 u5 u6 u7 u8 u9 u10 : Value) : Rb w #[u0,u1,u2,u3,u4,u5,u6,u7,u8,u9,u10] v (((((((((((V.setCell ⟨w.heap.size,0,none⟩ u0).setCell ⟨w.heap.size,1,none⟩ u1).setCell ⟨w.heap.size,2,none⟩ u2).setCell ⟨w.heap.size,3,none⟩ u3).setCell ⟨w.heap.size,4,none⟩ u4).setCell ⟨w.heap.size,5,none⟩ u5).setCell ⟨w.heap.size,6,none⟩ u6).setCell ⟨w.heap.size,7,none⟩ u7).setCell ⟨w.heap.size,8,none⟩ u8).setCell ⟨w.heap.size,9,none⟩ u9).setCell ⟨w.heap.size,10,none⟩ u10):=by
 refine⟨Below.set11 h.below (Nat.le_refl _) u0 u1 u2 u3 u4 u5 u6 u7 u8 u9 u10,set11 h.got u0 u1 u2 u3 u4 u5 u6 u7 u8 u9 u10,?_⟩
 rw [heap_setCell_other _ _ _ _ (by simp),heap_setCell_other _ _ _ _ (by simp),heap_setCell_other _ _ _ _ (by simp),heap_setCell_other _ _ _ _ (by simp),heap_setCell_other _ _ _ _ (by simp),heap_setCell_other _ _ _ _ (by simp),heap_setCell_other _ _ _ _ (by simp),heap_setCell_other _ _ _ _ (by simp),heap_setCell_other _ _ _ _ (by simp),heap_setCell_other _ _ _ _ (by simp),heap_setCell_other _ _ _ _ (by simp)]
 exact h.ok
theorem Rb.flag (h:Rb w cs v V) (u:Value) : Rb w cs u (V.setCell ⟨w.heap.size+1,0,none⟩ u):=by
 refine⟨h.below.setCell (p:=⟨w.heap.size+1,0,none⟩) (by simp) _,(heap_setCell_other _ _ _ _ (by simp)).trans h.got,?_⟩
 have e:=heap_setCell_same _ _ 0 _ _ u h.ok
 simpa using e
theorem Rb.caught {v0 v1 v2 v3 v4 v5 v6 v7 v8 v9 v10 : Value} (h:Rb w #[v0,v1,v2,v3,v4,v5,v6,v7,v8,v9,v10] v V) : Rb w #[.int .u64 0,.int .u64 0,.int .u64 0,.int .u64 0,.int .u64 0,.int .u64 0,.string ⟨#[]⟩,.int .u64 0,.int .u64 0,.int .u64 0,.int .u64 0] (.bool false) (((((((((((((V.alloc (.cells #[.int .u64 0,.int .u64 0,.int .u64 0,.int .u64 0,.int .u64 0,.int .u64 0,.string ⟨#[]⟩,.int .u64 0,.int .u64 0,.int .u64 0,.int .u64 0] 119)).setCell ⟨w.heap.size,0,none⟩ (.int .u64 0)).setCell ⟨w.heap.size,1,none⟩ (.int .u64 0)).setCell ⟨w.heap.size,2,none⟩ (.int .u64 0)).setCell ⟨w.heap.size,3,none⟩ (.int .u64 0)).setCell ⟨w.heap.size,4,none⟩ (.int .u64 0)).setCell ⟨w.heap.size,5,none⟩ (.int .u64 0)).setCell ⟨w.heap.size,6,none⟩ (.string ⟨#[]⟩)).setCell ⟨w.heap.size,7,none⟩ (.int .u64 0)).setCell ⟨w.heap.size,8,none⟩ (.int .u64 0)).setCell ⟨w.heap.size,9,none⟩ (.int .u64 0)).setCell ⟨w.heap.size,10,none⟩ (.int .u64 0)).setCell ⟨w.heap.size+1,0,none⟩ (.bool false)):=
 ((h.call ((Below.refl _ _).alloc (Nat.le_refl _) _)).put _ _ _ _ _ _ _ _ _ _ _).flag _
end
def replyO : Option ReplyP→Value
 | none=>.tuple #[.agg #[.int .u64 0,.int .u64 0,.int .u64 0,.int .u64 0,.int .u64 0,.int .u64 0,.string ⟨#[]⟩,.int .u64 0,.int .u64 0,.int .u64 0,.int .u64 0],.bool false]
 | some a=>.tuple #[replyV a,.bool true]
def GetReplyR (kind:Int) (s:List UInt8) (w:World) (e:Ending) (w' : World) : Prop:=∃ o,ReplyIs kind s o∧e=.returned (replyO o)∧Below w.heap.size w w'
theorem enterQ (args:Array Value) (w:World) : (callFunc 153 args).run Tryz.prog w=.ok (.enter 153 args) w:=enters_of Tryz.func153 (by kernel_rfl) rfl args w
theorem enterV (args:Array Value) (w:World) : (callFunc 150 args).run Tryz.prog w=.ok (.enter 150 args) w:=enters_of Tryz.func150 (by kernel_rfl) rfl args w
theorem enterC (args:Array Value) (w:World) : (callFunc 151 args).run Tryz.prog w=.ok (.enter 151 args) w:=enters_of Tryz.func151 (by kernel_rfl) rfl args w
set_option maxRecDepth 100000 in
theorem putQ_c (kind:Int) {a : ReplyP} (hw:a.Wf) (kb:Nat) (w:World) (hk:w.heap[kb]?=some (.cells #[.int .i64 kind] 3 (0,0))) : Calls Tryz.prog 153 #[replyV a,.pointer (some ⟨kb,0,none⟩)] w fun e w'=>e=.returned (putReplyV kind a)∧Below w.heap.size w w':=by
 have hal : Below w.heap.size w (w.alloc (.cells #[.int .u64 a.id,.int .u64 a.nonce,.int .u64 (l3 a.bal : Nat),.int .u64 (l2 a.bal : Nat),.int .u64 (l1 a.bal : Nat),.int .u64 (l0 a.bal : Nat),.string (str a.code),.int .u64 (l3 a.value : Nat),.int .u64 (l2 a.value : Nat),.int .u64 (l1 a.value : Nat),.int .u64 (l0 a.value : Nat)] 119)):=(Below.refl _ _).alloc (Nat.le_refl _) _
 have c0:=cell_of ((hal.block _ (lt_of hk)).trans hk) 0
 have C:=Lib.hid (fun V=>putReply_c kind hw V)
 have H:=Lib.hid hal
 unfold replyV at C ⊢
 unfold putReplyV at *
 clear hw hk hal
 generalize decide (a.Ok kind)=ok at *
 generalize str (if a.Ok kind then a.enc kind else [])=z at *
 go_enter Tryz.func153,Tryz.ntmps153
 go_wp2_with fail
 refine (C.out _).mono ?_
 rintro e w1 ⟨rfl,hb⟩
 have HB:=Lib.hid (H.out.trans (hb.mono (by simp)))
 clear hb C H
 go_wp2_with fail
 go_ret2
 exact⟨rfl,HB.out⟩
set_option maxRecDepth 100000 in
set_option maxHeartbeats 4000000 in
theorem readReply_c (kind:Int) (Fn9:FuncId) (hen:∀ (args:Array Value) (w:World),(callFunc Fn9 args).run Tryz.prog w=.ok (.enter Fn9 args) w)
  (hF:∀ {S : Nat→Prop} {g : Nat} {f : Fo} {w : World},Fd S g f w→f.enc.length≤70000→Calls Tryz.prog Fn9 #[fN g,fT g,fW g] w fun e w'=>RepR kind g f w e w')
  (s:List UInt8) (kb:Nat) (w:World) (hkb:w.heap[kb]?=some (.cells #[.int .i64 kind] 3 (0,0))) : Calls Tryz.prog 152 #[.string (str s),.int .i64 4,.func (.func Fn9) #[] #[],.func (.func 153) #[] #[.pointer (some ⟨kb,0,none⟩)]] w fun e w'=>GetReplyR kind s w e w':=by
 have hsl : (str s).extract 4 (str s).size=str (s.drop 4):=str_drop s 4
 have hsz:=str_size s
 have HD:=Lib.hid (fun V=>decode_n (s.drop 4) V)
 have hm:=hmf
 have A0:=Lib.hid (Rb.start w #[.int .u64 0,.int .u64 0,.int .u64 0,.int .u64 0,.int .u64 0,.int .u64 0,.string ⟨#[]⟩,.int .u64 0,.int .u64 0,.int .u64 0,.int .u64 0] (.bool false))
 have HT:=Lib.hid (str_eq · s)
 have HK:=Lib.hid (And.intro hkb (lt_of hkb))
 have enQ:=enterQ
 have HX0:=Lib.hid (fun (a:ReplyP) (hw:a.Wf) (ho:a.Ok kind) (h:a.enc kind=s)=>show decV (s.drop 4)=(a.it kind,0) from by
   have hbd : s.drop 4=a.body kind:=by rw [← h,ReplyP.body_of]
   exact decV_of hbd.symm (by have:=ReplyP.body_len hw ho; unfold ReplyP.body at this; omega) (a.dep kind))
 have HL4:=Lib.hid (fun (a:ReplyP) (h:a.enc kind=s)=>show 4≤s.length from by rw [← h]; unfold ReplyP.enc; rw [List.length_append,sum4_len]; omega)
 generalize str (s.drop 4)=y4 at *
 generalize hst : str s=y at *
 have HS:=Lib.hid hst
 clear hst hkb
 by_cases h4 : 4≤s.length
 ·have hz4 : (4:Int)≤(y.size : Int):=by omega
  have hz5 : 4≤y.size:=by omega
  clear hsz
  go_enter_defers Tryz.func152,Tryz.ntmps152
  go_wp2_with fail
  refine (wmust_ok _).mono ?_
  rintro e w1 ⟨rfl,rfl⟩
  go_wp2_with fail
  refine (HD.out _).mono ?_
  rintro e w2 ⟨v,rfl,hv,hb⟩
  obtain⟨b2,t2,u2,rfl,hi⟩:=SlF_inner hv
  obtain⟨a2,n2,c2,rfl⟩:=hi.form
  have A2:=Lib.hid (A0.out.call hb)
  have hs2:=hb.size
  simp only [alloc_size] at hs2 hi
  clear hv hb A0 HD
  by_cases her : (decV (s.drop 4)).2=0
  ·have hen2:=decV_ok her
   have hil:=inner_len (decV (s.drop 4)).1
   have hle : (decV (s.drop 4)).1.enc.length≤65536:=decV_enc (s.drop 4)
   have HX:=Lib.hid (fun (a:ReplyP) (hw:a.Wf) (ho:a.Ok kind) (h:a.enc kind=s)=>show (decV (s.drop 4)).1.inner=a.fo kind from by rw [HX0.out a hw ho h]; rfl)
   have HI:=Lib.hid (And.intro hi (show (decV (s.drop 4)).1.inner.enc.length≤70000 by omega))
   rw [her]
   clear her hen2 hil hle hi
   generalize (decV (s.drop 4)).1.inner=f at *
   obtain⟨W3,hW3⟩ : ∃ W3,W3=(w2.alloc (.cells #[.bool b2,.string t2,.slice a2 n2 c2] 198)).alloc (.cells #[.slice a2 n2 c2] 286):=⟨_,rfl⟩
   have hb3 : Below w2.heap.size w2 W3:=by rw [hW3]; exact ((Below.refl _ _).alloc (Nat.le_refl _) _).alloc (by simp) _
   have A3:=Lib.hid (A2.out.call hb3)
   have hfd : Fd (fun k=>w.heap.size+1+1≤k∧k<w2.heap.size) (w2.heap.size+1) f W3:=by
    refine⟨fun k hk=>⟨by have:=hb3.size; omega,by omega⟩,_,by rw [hW3]; exact heap_alloc2_new _ _ _,HI.out.1.kept fun k hk=>hb3.block k hk.2⟩
   have HA:=Lib.hid (hF hfd HI.out.2)
   have HW:=Lib.hid hW3
   clear hb3 hfd hW3
   unfold fN fT fW at HA
   go_wp2_with fail
   refine (wmust_ok _).mono ?_
   rintro e w4 ⟨rfl,rfl⟩
   go_wp2_with fail
   rw [← HW.out]
   refine HA.out.mono ?_
   rintro e w5 ⟨ho,hr⟩
   have A5:=Lib.hid (A3.out.only (by omega) ho)
   clear ho A3 HA HI
   rcases hr with ⟨rfl,hno⟩ | ⟨a,rfl,haw,hone⟩
   ·have HN:=Lib.hid (show ReplyIs kind s none from fun a hw ho h=>hno a hw ho (HX.out a hw ho h))
    clear hno HX
    refine leaves_cons (f:=193) (args:=#[.pointer (some ⟨w.heap.size,0,none⟩),.pointer (some ⟨w.heap.size+1,0,none⟩)]) (by simp) (by simp [go_sem]) ?_
    refine (rcatch_panicking w.heap.size (w.heap.size+1) _ _ _ _ _ _ _ _ _ _ _ _ 27 (.int .i64 2) [] _ A5.out.got A5.out.ok (by omega)).mono ?_
    rintro e u' w'' ⟨rfl,rfl,rfl⟩
    refine⟨_,rr_results _ _ w.heap.size (w.heap.size+1) _ _ _ _ _ _ _ _ _ _ _ _ rfl rfl A5.out.caught.got A5.out.caught.ok,?_⟩
    exact⟨none,HN.out,rfl,A5.out.caught.below⟩
   ·have HN:=Lib.hid (show ¬ (a.Ok kind∧a.enc kind=s)→ReplyIs kind s none from fun hn b hw ho h=>hn (by
      have:=hone b hw ho (HX.out b hw ho h)
      subst this
      exact⟨ho,h⟩))
    obtain⟨⟨c0,c1,c2,c3,c4,c5,c6,c7,c8,c9,c10⟩,z0,z1,z2,z3,z4,z5,z6,z7,z8,z9,z10⟩:=cells11 A5.out.got
    have A6:=A5.out.put (.int .u64 a.id) (.int .u64 a.nonce) (.int .u64 (l3 a.bal : Nat)) (.int .u64 (l2 a.bal : Nat)) (.int .u64 (l1 a.bal : Nat)) (.int .u64 (l0 a.bal : Nat)) (.string (str a.code)) (.int .u64 (l3 a.value : Nat)) (.int .u64 (l2 a.value : Nat)) (.int .u64 (l1 a.value : Nat)) (.int .u64 (l0 a.value : Nat))
    obtain⟨⟨d0,d1,d2,d3,d4,d5,d6,d7,d8,d9,d10⟩,_⟩:=cells11 A6.got
    have H6:=Lib.hid A6
    have HP:=Lib.hid (putQ_c kind haw kb _ ((A6.below.block _ HK.out.2).trans HK.out.1))
    have HWa:=Lib.hid haw
    clear hone haw HX A6
    unfold replyV at HP ⊢
    go_wp2_with fail
    refine HP.out.mono ?_
    rintro e w7 ⟨rfl,hb7⟩
    have A7:=Lib.hid (H6.out.call hb7)
    clear hb7 HP H6 c0 c1 c2 c3 c4 c5 c6 c7 c8 c9 c10 z0 z1 z2 z3 z4 z5 z6 z7 z8 z9 z10 d0 d1 d2 d3 d4 d5 d6 d7 d8 d9 d10
    have q0:=cell_of A7.out.ok 0
    have q1:=free_of A7.out.ok 0
    by_cases hok : a.Ok kind
    ·rw [putReplyV_ok hok]
     have A8:=Lib.hid (A7.out.flag (.bool true))
     have q2:=cell_of A8.out.ok 0
     by_cases he : a.enc kind=s
     ·have hcmp : ((str (a.enc kind)).toList == y.toList)=true:=by rw [HT.out,he]; simp
      have HO:=Lib.hid (show ReplyIs kind s (some a) from⟨HWa.out,hok,he⟩)
      clear hok he HN
      generalize str (a.enc kind)=z at *
      go_wp2_with fail
      refine (wmust_ok _).mono ?_
      rintro e w9 ⟨rfl,rfl⟩
      obtain⟨⟨c0,c1,c2,c3,c4,c5,c6,c7,c8,c9,c10⟩,z0,z1,z2,z3,z4,z5,z6,z7,z8,z9,z10⟩:=cells11 A8.out.got
      have A9:=A8.out.put (.int .u64 a.id) (.int .u64 a.nonce) (.int .u64 (l3 a.bal : Nat)) (.int .u64 (l2 a.bal : Nat)) (.int .u64 (l1 a.bal : Nat)) (.int .u64 (l0 a.bal : Nat)) (.string (str a.code)) (.int .u64 (l3 a.value : Nat)) (.int .u64 (l2 a.value : Nat)) (.int .u64 (l1 a.value : Nat)) (.int .u64 (l0 a.value : Nat))
      have q5:=cell_of A9.ok 0
      have q6:=free_of A9.ok 0
      have H9:=Lib.hid (A9.flag (.bool true))
      clear A9 q0 q1 q2
      go_wp2_with fail
      refine leaves_cons (f:=193) (args:=#[.pointer (some ⟨w.heap.size,0,none⟩),.pointer (some ⟨w.heap.size+1,0,none⟩)]) (by simp) (by simp [go_sem]) ?_
      refine (rcatch_idle _ _ _).mono ?_
      rintro e u' w'' ⟨rfl,rfl,rfl⟩
      refine⟨_,rr_results _ _ w.heap.size (w.heap.size+1) _ _ _ _ _ _ _ _ _ _ _ _ rfl rfl H9.out.got H9.out.ok,?_⟩
      exact⟨some a,HO.out,rfl,H9.out.below⟩
     ·have hcmp : ((str (a.enc kind)).toList == y.toList)=false:=by rw [HT.out]; simp [he]
      have HO:=Lib.hid (HN.out (fun h=>he h.2))
      clear hok he HN
      generalize str (a.enc kind)=z at *
      go_wp2_with fail
      refine (wmust_no _).mono ?_
      rintro e w9 ⟨rfl,rfl⟩
      refine leaves_cons (f:=193) (args:=#[.pointer (some ⟨w.heap.size,0,none⟩),.pointer (some ⟨w.heap.size+1,0,none⟩)]) (by simp) (by simp [go_sem]) ?_
      refine (rcatch_panicking w.heap.size (w.heap.size+1) _ _ _ _ _ _ _ _ _ _ _ _ 27 (.int .i64 2) [] _ A8.out.got A8.out.ok (by omega)).mono ?_
      rintro e u' w'' ⟨rfl,rfl,rfl⟩
      refine⟨_,rr_results _ _ w.heap.size (w.heap.size+1) _ _ _ _ _ _ _ _ _ _ _ _ rfl rfl A8.out.caught.got A8.out.caught.ok,?_⟩
      exact⟨none,HO.out,rfl,A8.out.caught.below⟩
    ·rw [putReplyV_no hok]
     have A8:=Lib.hid (A7.out.flag (.bool false))
     have q2:=cell_of A8.out.ok 0
     have HO:=Lib.hid (HN.out (fun h=>hok h.1))
     clear hok HN
     go_wp2_with fail
     refine (wmust_no _).mono ?_
     rintro e w9 ⟨rfl,rfl⟩
     refine leaves_cons (f:=193) (args:=#[.pointer (some ⟨w.heap.size,0,none⟩),.pointer (some ⟨w.heap.size+1,0,none⟩)]) (by simp) (by simp [go_sem]) ?_
     refine (rcatch_panicking w.heap.size (w.heap.size+1) _ _ _ _ _ _ _ _ _ _ _ _ 27 (.int .i64 2) [] _ A8.out.got A8.out.ok (by omega)).mono ?_
     rintro e u' w'' ⟨rfl,rfl,rfl⟩
     refine⟨_,rr_results _ _ w.heap.size (w.heap.size+1) _ _ _ _ _ _ _ _ _ _ _ _ rfl rfl A8.out.caught.got A8.out.caught.ok,?_⟩
     exact⟨none,HO.out,rfl,A8.out.caught.below⟩
  ·have HN:=Lib.hid (show ReplyIs kind s none from fun a hw ho h=>her (by rw [HX0.out a hw ho h]))
   have heb : ((((decV (s.drop 4)).2 : Nat) : Int) == 0)=false:=by rw [beq_eq_false_iff_ne]; omega
   generalize (decV (s.drop 4)).2=er at *
   have A3:=Lib.hid (A2.out.call ((Below.refl w2.heap.size w2).alloc (Nat.le_refl _) (.cells #[.bool b2,.string t2,.slice a2 n2 c2] 198)))
   clear her hi
   go_wp2_with fail
   refine (wmust_no _).mono ?_
   rintro e w9 ⟨rfl,rfl⟩
   refine leaves_cons (f:=193) (args:=#[.pointer (some ⟨w.heap.size,0,none⟩),.pointer (some ⟨w.heap.size+1,0,none⟩)]) (by simp) (by simp [go_sem]) ?_
   refine (rcatch_panicking w.heap.size (w.heap.size+1) _ _ _ _ _ _ _ _ _ _ _ _ 27 (.int .i64 2) [] _ A3.out.got A3.out.ok (by omega)).mono ?_
   rintro e u' w'' ⟨rfl,rfl,rfl⟩
   refine⟨_,rr_results _ _ w.heap.size (w.heap.size+1) _ _ _ _ _ _ _ _ _ _ _ _ rfl rfl A3.out.caught.got A3.out.caught.ok,?_⟩
   exact⟨none,HN.out,rfl,A3.out.caught.below⟩
 ·have HN:=Lib.hid (show ReplyIs kind s none from fun a _ _ h=>h4 (HL4.out a h))
  have hz4 : ¬ (4:Int)≤(y.size : Int):=by omega
  clear hsz h4
  go_enter_defers Tryz.func152,Tryz.ntmps152
  go_wp2_with fail
  refine (wmust_no _).mono ?_
  rintro e w9 ⟨rfl,rfl⟩
  refine leaves_cons (f:=193) (args:=#[.pointer (some ⟨w.heap.size,0,none⟩),.pointer (some ⟨w.heap.size+1,0,none⟩)]) (by simp) (by simp [go_sem]) ?_
  refine (rcatch_panicking w.heap.size (w.heap.size+1) _ _ _ _ _ _ _ _ _ _ _ _ 27 (.int .i64 2) [] _ A0.out.got A0.out.ok (by omega)).mono ?_
  rintro e u' w'' ⟨rfl,rfl,rfl⟩
  refine⟨_,rr_results _ _ w.heap.size (w.heap.size+1) _ _ _ _ _ _ _ _ _ _ _ _ rfl rfl A0.out.caught.got A0.out.caught.ok,?_⟩
  exact⟨none,HN.out,rfl,A0.out.caught.below⟩
set_option maxRecDepth 100000 in
set_option maxHeartbeats 2000000 in
theorem getReply_c (kind:Int) (s:List UInt8) (w:World) : Calls Tryz.prog 105 #[.int .i64 kind,.string (str s)] w fun e w'=>GetReplyR kind s w e w':=by
 have hal : Below w.heap.size w ((w.alloc (.cells #[.int .i64 kind] 3)).alloc (.cells #[.int .u64 0,.int .u64 0,.int .u64 0,.int .u64 0,.int .u64 0,.int .u64 0,.string ⟨#[]⟩,.int .u64 0,.int .u64 0,.int .u64 0,.int .u64 0] 119)):=((Below.refl _ _).alloc (Nat.le_refl _) _).alloc (by simp) _
 have hk0:=heap_alloc2_old w (.cells #[.int .i64 kind] 3) (.cells #[.int .u64 0,.int .u64 0,.int .u64 0,.int .u64 0,.int .u64 0,.int .u64 0,.string ⟨#[]⟩,.int .u64 0,.int .u64 0,.int .u64 0,.int .u64 0] 119)
 have hx:=heap_alloc2_new w (.cells #[.int .i64 kind] 3) (.cells #[.int .u64 0,.int .u64 0,.int .u64 0,.int .u64 0,.int .u64 0,.int .u64 0,.string ⟨#[]⟩,.int .u64 0,.int .u64 0,.int .u64 0,.int .u64 0] 119)
 have hm:=hmf
 have ck:=cell_of hk0 0
 have HA:=Lib.hid (And.intro hal (And.intro hk0 hx))
 clear hal hk0 hx
 by_cases hk : kind=1
 ·have C:=Lib.hid (fun V hV=>readReply_c kind 151 enterC (fun {S g f w} h hl=>by rw [hk]; exact account_c h hl) s w.heap.size V hV)
  have hkb : (kind == 1)=true:=by simp [hk]
  clear hk
  generalize str s=y at *
  go_enter Tryz.func105,Tryz.ntmps105
  go_wp2_with fail
  refine (C.out _ HA.out.2.1).mono ?_
  rintro e w1 ⟨o,ho,rfl,hb⟩
  have kb:=(hb.block _ (by simp)).trans HA.out.2.2
  obtain⟨⟨c0,c1,c2,c3,c4,c5,c6,c7,c8,c9,c10⟩,z0,z1,z2,z3,z4,z5,z6,z7,z8,z9,z10⟩:=cells11 kb
  have HB:=Lib.hid (And.intro (HA.out.1.trans (hb.mono (by simp; omega))) kb)
  have HO:=Lib.hid ho
  clear hb kb ho HA C ck
  cases o with
  | none=>
   unfold replyO
   go_wp2_with fail
   exact bodyPost_ret (results_cell_slot Tryz.results105 _ _ _ _ _ _ _ _ rfl rfl (set11 HB.out.2 _ _ _ _ _ _ _ _ _ _ _) Tryz.underlying119 rfl (by kernel_rfl)) rfl ⟨none,HO.out,rfl,Below.set11 HB.out.1 (by omega) _ _ _ _ _ _ _ _ _ _ _⟩
  | some a=>
   unfold replyO replyV
   go_wp2_with fail
   exact bodyPost_ret (results_cell_slot Tryz.results105 _ _ _ _ _ _ _ _ rfl rfl (set11 HB.out.2 _ _ _ _ _ _ _ _ _ _ _) Tryz.underlying119 rfl (by kernel_rfl)) rfl ⟨some a,HO.out,rfl,Below.set11 HB.out.1 (by omega) _ _ _ _ _ _ _ _ _ _ _⟩
 ·have C:=Lib.hid (fun V hV=>readReply_c kind 150 enterV (fun {S g f w} h hl=>value_c hk h hl) s w.heap.size V hV)
  have hkb : (kind == 1)=false:=by simp [hk]
  clear hk
  generalize str s=y at *
  go_enter Tryz.func105,Tryz.ntmps105
  go_wp2_with fail
  refine (C.out _ HA.out.2.1).mono ?_
  rintro e w1 ⟨o,ho,rfl,hb⟩
  have kb:=(hb.block _ (by simp)).trans HA.out.2.2
  obtain⟨⟨c0,c1,c2,c3,c4,c5,c6,c7,c8,c9,c10⟩,z0,z1,z2,z3,z4,z5,z6,z7,z8,z9,z10⟩:=cells11 kb
  have HB:=Lib.hid (And.intro (HA.out.1.trans (hb.mono (by simp; omega))) kb)
  have HO:=Lib.hid ho
  clear hb kb ho HA C ck
  cases o with
  | none=>
   unfold replyO
   go_wp2_with fail
   exact bodyPost_ret (results_cell_slot Tryz.results105 _ _ _ _ _ _ _ _ rfl rfl (set11 HB.out.2 _ _ _ _ _ _ _ _ _ _ _) Tryz.underlying119 rfl (by kernel_rfl)) rfl ⟨none,HO.out,rfl,Below.set11 HB.out.1 (by omega) _ _ _ _ _ _ _ _ _ _ _⟩
  | some a=>
   unfold replyO replyV
   go_wp2_with fail
   exact bodyPost_ret (results_cell_slot Tryz.results105 _ _ _ _ _ _ _ _ rfl rfl (set11 HB.out.2 _ _ _ _ _ _ _ _ _ _ _) Tryz.underlying119 rfl (by kernel_rfl)) rfl ⟨some a,HO.out,rfl,Below.set11 HB.out.1 (by omega) _ _ _ _ _ _ _ _ _ _ _⟩
end Go.Proofs.YtekoaheiapddiaaGreat
end
section
namespace Go.Proofs.YtekoaheiapddiaaGreat
open Go.RowKit
theorem eq_ask (a:AskP) (w:World) : (binOp .eql 117 (askV a) (askV a)).run Tryz.prog w=.ok (.bool true) w:=by
 have u3:=Tryz.underlying41
 have a3':=Tryz.isAgg41
 have z3:=Tryz.sizeOf41
 have u4:=Tryz.underlying3
 have a4':=Tryz.isAgg3
 have z4:=Tryz.sizeOf3
 have u9:=Tryz.underlying9
 have a9:=Tryz.isAgg9
 have z9:=Tryz.sizeOf9
 have uW:=Tryz.underlying61
 have aW:=Tryz.isAgg61
 have zW:=Tryz.sizeOf61
 have hS : Tryz.prog.underlying 117=some (.struct (Tryz.prog.fieldsOf 117)):=by kernel_rfl
 have hp : Tryz.prog.stoodInHeld 117=false:=by kernel_rfl
 have hSW : Tryz.prog.underlying 61=some (.struct (Tryz.prog.fieldsOf 61)):=by kernel_rfl
 have hpW : Tryz.prog.stoodInHeld 61=false:=by kernel_rfl
 unfold askV
 rw [run_eql_struct,show (10000:Nat)=9999+1 from rfl,run_equalIn_agg w 9999 117 _ _ hS hp]
 simp only [Program.fieldsOf,Tryz.underlying117]
 go_simp
def Box (b:Nat) (cs:Array Value) (t:TypeId) (V:World) : Prop:=V.heap[b]?=some (.cells cs t (0,0))
theorem Below.set7 {B b : Nat} {a w : World} (h:Below B a w) (hb:B≤b) (u0 u1 u2 u3 u4 u5 u6 : Value) : Below B a (((((((w.setCell ⟨b,0,none⟩ u0).setCell ⟨b,1,none⟩ u1).setCell ⟨b,2,none⟩ u2).setCell ⟨b,3,none⟩ u3).setCell ⟨b,4,none⟩ u4).setCell ⟨b,5,none⟩ u5).setCell ⟨b,6,none⟩ u6):=
 (((((((h.setCell (p:=⟨b,0,none⟩) hb u0).setCell (p:=⟨b,1,none⟩) hb u1).setCell (p:=⟨b,2,none⟩) hb u2).setCell (p:=⟨b,3,none⟩) hb u3).setCell (p:=⟨b,4,none⟩) hb u4).setCell (p:=⟨b,5,none⟩) hb u5).setCell (p:=⟨b,6,none⟩) hb u6)
end Go.Proofs.YtekoaheiapddiaaGreat
end
section
namespace Go.Proofs.YtekoaheiapddiaaGreat
open Go.RowKit
end Go.Proofs.YtekoaheiapddiaaGreat
end
section
namespace Go.Proofs.YtekoaheiapddiaaGreat
open Go.RowKit
theorem reply_len {kind : Int} {a : ReplyP} : (a.enc kind).length=4+(a.body kind).length:=by unfold ReplyP.enc; rw [List.length_append,sum4_len]
end Go.Proofs.YtekoaheiapddiaaGreat
end
section
namespace Go.Proofs.YtekoaheiapddiaaGreat
open Go.RowKit
end Go.Proofs.YtekoaheiapddiaaGreat
end
section
namespace Go.Proofs.YtekoaheiapddiaaGreat
open Go.RowKit
end Go.Proofs.YtekoaheiapddiaaGreat
end
section
namespace Go.Proofs.YtekoaheiapddiaaGreat
open Go.RowKit
end Go.Proofs.YtekoaheiapddiaaGreat
end
section
namespace Go.Proofs.YtekoaheiapddiaaGreat
open Go.RowKit
def Bt (g n : Nat) (P:Nat→Nat) (W:World) : Prop:=∀ j,j<n→W.cell? ⟨g,j,none⟩=some (.int .u8 (P j : Nat))∧W.frozen? ⟨g,j,none⟩=false
theorem Bt.set {g n : Nat} {P : Nat→Nat} {W : World} (h:Bt g n P W) {k : Nat} (hk:k<n) (v:Nat) : Bt g n (upd P k v) (W.setCell ⟨g,k,none⟩ (.int .u8 (v:Nat))):=fun j hj=>by
 refine⟨?_,by rw [World.frozen?_setCell]; exact (h j hj).2⟩
 by_cases e : j=k
 ·subst e
  rw [World.cell?_setCell_same _ _ _ (h j hj).1,upd_same]
 ·rw [World.cell?_setCell_other _ _ _ _ (by intro e'; injection e' with e1 e2; omega),upd_other _ _ e]
  exact (h j hj).1
theorem Bt.congr {g n : Nat} {P Q : Nat→Nat} {W : World} (h:Bt g n P W) (e:∀ j,j<n→P j=Q j) : Bt g n Q W:=fun j hj=>by rw [← e j hj]; exact h j hj
theorem Bt.conv {g n : Nat} {P : Nat→Nat} {W : World} (h:Bt g n P W) (hP:∀ j,P j<256) (cap:Nat) :
  (convert 218 9 (.slice (some ⟨g,0,none⟩) n cap)).run Tryz.prog W=.ok (.string (txt n P)) W:=by
 have:=Lib.run_convert_whole (P:=Tryz.prog) W 218 5 9 Tryz.underlying218 Tryz.underlying5 Tryz.underlying9 g 0 (txt n P) (by
   intro i hi
   rw [txt_size] at hi
   have e : (txt n P)[i]'(by rw [txt_size]; exact hi)=UInt8.ofNat (P i):=by simp [txt,ByteArray.getElem_eq_getElem_data]
   rw [Nat.zero_add,(h i hi).1,e,UInt8.toNat_ofNat_of_lt' (hP i)]) cap
 rwa [txt_size] at this
structure Kb (w:World) (L:List (Nat×Array Value×TypeId)) (W:World) : Prop where
 below : Below w.heap.size w W
 blk : ∀ p∈L,W.heap[p.1]?=some (.cells p.2.1 p.2.2 (0,0))
section
variable {w W W' : World} {L : List (Nat×Array Value×TypeId)}
theorem Kb.call (h:Kb w L W) (hb:Below W.heap.size W W') : Kb w L W':=
 ⟨h.below.trans (hb.mono h.below.size),fun p hp=>(hb.block _ (lt_of (h.blk p hp))).trans (h.blk p hp)⟩
theorem Kb.box (h:Kb w L W) (cs:Array Value) (t:TypeId) : Kb w ((W.heap.size,cs,t) :: L) (W.alloc (.cells cs t)):=by
 have hc:=h.call ((Below.refl _ _).alloc (Nat.le_refl _) (.cells cs t))
 refine⟨hc.below,fun p hp=>?_⟩
 rcases List.mem_cons.1 hp with rfl | hp
 ·exact heap_alloc_new _ _
 ·exact hc.blk p hp
theorem Kb.start (w:World) : Kb w [] w:=⟨Below.refl _ _,by simp⟩
theorem Kb.get (h:Kb w L W) {b : Nat} {cs : Array Value} {t : TypeId} (hm:(b,cs,t)∈L) : W.heap[b]?=some (.cells cs t (0,0)):=h.blk _ hm
end
end Go.Proofs.YtekoaheiapddiaaGreat
end
