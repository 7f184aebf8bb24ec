/- Merged: Vz, Vw. -/
import Derived.Test.YtekoaheiapddiaaGreatM22
import Derived.Test.YtekoaheiapddiaaGreatM05
import Derived.Deep.CutRange
import Derived.Test.YtekoaheiapddiaaGreatM20
section
namespace Go.Proofs.YtekoaheiapddiaaGreat
open Go.RowKit
theorem wp_append_foR {o : Oper} {a : Act} {K : Act→World→Prop} {Q : Exit→Act→World→Prop} {W : World} (s x : Operand)
  (ho:o.op=.call { callee:=.builtin .append,args:=#[s,x],argTypes:=#[123,123] })
  (B:Nat) (v:Value) (f g : Fo) (m:Nat) (cs:List Value) (hs:a.eval s=v) (h:OwnR B f v W) (hm:m=g.len) (hone:∀ u∈cs,u.oneCell'=true) (hcel:Cel (fun _=>False) g cs W)
  (q:Nat) (hx:a.eval x=.slice (some ⟨q,0,none⟩) m m) (hz:W.heap[q]?=some (.cells cs.toArray 125 (0,0))) (hB:B≤W.heap.size) (hn:f.len+m<1000000)
  (hK:∀ v' W',OwnR B (f.app g) v' W'→W.grownBy W' v.ownBlock→(v'.ownBlock=v.ownBlock∨v'.ownBlock=some W.heap.size)→K (a.put o.dst v') W') : Oper.wp Tryz.prog o a W K Q:=by
 obtain⟨i0,hi,hz0,hz1,hz2⟩:=info_parts infoItemR
 obtain⟨S0,xs,hown,hc,hS0⟩:=h
 subst hm
 obtain⟨v',W',hr,h1,h2,h3,h4⟩:=run_append_own_at (P:=Tryz.prog) W B 123 o.type 125 i0 _ 3 48 Tryz.underlying123 hi hz0 hz1 hz2 rfl (by omega) v f.len xs hown ⟨q,0,none⟩ g.len g.len cs hcel.length (by
   intro j u hj
   have e : (⟨q,0,none⟩ : Addr).add j=⟨q,j,none⟩:=by unfold Addr.add; split <;> simp_all
   rw [e,cell_of hz]
   simpa using hj) hone (by unfold maxLen; omega) (by omega) hB
 unfold Oper.wp execOp
 simp only [ho,resolve,invoke,builtin,Sem.run_bind,Sem.run_pure,Result.andThen_ok,List.map_toArray,List.map_cons,List.map_nil,hs,hx,hr]
 ·refine hK v' W' ?_ h2 h4
  have hk0 : ∀ k,S0 k→W'.heap[k]?=W.heap[k]?:=fun k hk=>h2.block k (hS0 k hk).2.1 (fun e=>(hS0 k hk).2.2 e.symm)
  refine⟨S0,xs ++ cs,?_,?_,?_⟩
  ·rw [Fo.len_app]; exact h1
  ·exact Cel.app ((hcel.kept (fun _ h=>h.elim) _ _).mono (fun _ h=>h.elim) _ _) _ _ (hc.kept hk0 _ _)
  ·intro k hk
   have hkk:=hS0 k hk
   refine⟨hkk.1,Nat.lt_of_lt_of_le hkk.2.1 h2.size,?_⟩
   rcases h4 with h4 | h4
   ·rw [h4]; exact hkk.2.2
   ·rw [h4]; intro e; injection e with e; omega
def RRepB (w:World) (r:ReplyP) (V:World) : Prop:=Below w.heap.size w V∧V.heap[w.heap.size]?=some (.cells (replyCells r) 131 (0,0))
theorem RRepB.cells {w V : World} {r : ReplyP} (h:RRepB w r V) : V.cell? ⟨w.heap.size,0,none⟩=some (.int .u64 r.id)∧V.cell? ⟨w.heap.size,1,none⟩=some (.int .u64 r.nonce)∧V.cell? ⟨w.heap.size,2,none⟩=some (.int .u64 (l3 r.bal : Nat))∧V.cell? ⟨w.heap.size,3,none⟩=some (.int .u64 (l2 r.bal : Nat))∧V.cell? ⟨w.heap.size,4,none⟩=some (.int .u64 (l1 r.bal : Nat))∧V.cell? ⟨w.heap.size,5,none⟩=some (.int .u64 (l0 r.bal : Nat))∧V.cell? ⟨w.heap.size,6,none⟩=some (.string (str r.code))∧V.cell? ⟨w.heap.size,7,none⟩=some (.int .u64 (l3 r.value : Nat))∧V.cell? ⟨w.heap.size,8,none⟩=some (.int .u64 (l2 r.value : Nat))∧V.cell? ⟨w.heap.size,9,none⟩=some (.int .u64 (l1 r.value : Nat))∧V.cell? ⟨w.heap.size,10,none⟩=some (.int .u64 (l0 r.value : Nat)):=
 ⟨cell_of h.2 0,cell_of h.2 1,cell_of h.2 2,cell_of h.2 3,cell_of h.2 4,cell_of h.2 5,cell_of h.2 6,cell_of h.2 7,cell_of h.2 8,cell_of h.2 9,cell_of h.2 10⟩
theorem RRepB.call {w V V' : World} {r : ReplyP} (h:RRepB w r V) (hb:Below V.heap.size V V') : RRepB w r V':=⟨h.1.trans (hb.mono h.1.size),(hb.block _ (lt_of h.2)).trans h.2⟩
theorem RRepB.start (w:World) (r:ReplyP) : RRepB w r (w.alloc (.cells (replyCells r) 131)):=⟨(Below.refl _ _).alloc (Nat.le_refl _) _,heap_alloc_new _ _⟩
theorem fo1_cel (s:List UInt8) (W:World) : Cel (fun _=>False) (.text s .nil) [.bool false,.string (str s),.slice none 0 0] W:=⟨_,rfl,rfl⟩
set_option maxRecDepth 100000 in
set_option maxHeartbeats 8000000 in
theorem rputReply_c (kind:Int) {r : ReplyP} (hw:r.Wf) (w:World) : Calls Tryz.prog 60 #[.int .i64 kind,replyV r] w fun e w'=>e=.returned (putReplyV kind r)∧Below w.heap.size w w':=by
 have HC1:=Lib.hid (fun W=>rnumber_c r.id hw.id W)
 have HC2:=Lib.hid (fun W=>rnumber_c r.nonce hw.nonce W)
 have HC3:=Lib.hid (fun W=>rBytes_c hw.bal W)
 have HC4:=Lib.hid (fun W=>rtext_c (str (wordL r.bal)) W)
 have HC5:=Lib.hid (fun W=>rtext_c (str r.code) W)
 have HC6:=Lib.hid (fun W=>rBytes_c hw.value W)
 have HC7:=Lib.hid (fun W=>rtext_c (str (wordL r.value)) W)
 unfold textV at HC1 HC2 HC4 HC5 HC7
 unfold wordV at HC3 HC6
 have HQ:=Lib.hid (fun W=>eq_zero hw.value W)
 have HQ2:=Lib.hid (fun W=>eq_acc hw.bal r.nonce r.code W)
 unfold wordV at HQ
 have K0:=Lib.hid (RRepB.start w r)
 have HW:=Lib.hid hw
 obtain⟨c0,c1,c2,c3,c4,c5,c6,c7,c8,c9,c10⟩:=K0.out.cells
 have hsz : (str r.code).size=r.code.length:=str_size _
 clear hw
 unfold replyCells at c0 c1 c2 c3 c4 c5 c6 c7 c8 c9 c10
 unfold replyV
 go_enter Tryz.func60,Tryz.ntmps60
 go_wp2_with fail
 refine (HC1.out _).mono ?_
 rintro e w1 ⟨rfl,hb⟩
 have H1 : RRepB w r w1:=K0.out.call hb
 have H2 : RRepB w r (w1.alloc (.cells #[.bool false,.string (str (num r.id)),.slice none 0 0] 125)):=H1.call ((Below.refl _ _).alloc (Nat.le_refl _) _)
 have hown:=own_litR w1 (.text (num r.id) .nil) #[.bool false,.string (str (num r.id)),.slice none 0 0] (fo1_cel _ _) 1 rfl (by omega)
 have HB:=Lib.hid (And.intro H2 (And.intro hown (And.intro (show w.heap.size<w1.heap.size from lt_of H1.2) (show w1.heap.size≤(w1.alloc (.cells #[.bool false,.string (str (num r.id)),.slice none 0 0] 125)).heap.size by simp))))
 clear c0 c1 c2 c3 c4 c5 c6 c7 c8 c9 c10 hb K0 H1 hown HC1
 obtain⟨c0,c1,c2,c3,c4,c5,c6,c7,c8,c9,c10⟩:=H2.cells
 clear H2
 by_cases hlong : 24576<r.code.length
 ·have hok : ¬ r.Ok kind:=fun h=>by have:=h.1; omega
  have hlg : (24576:Int)<((str r.code).size : Int):=by rw [hsz]; omega
  clear hsz hlong
  have HO:=Lib.hid (putReplyV_no hok)
  clear hok
  go_wp2_with fail
  go_ret2
  exact⟨by rw [HO.out]; rfl,HB.out.1.1⟩
 ·have hlg : ¬ (24576:Int)<((str r.code).size : Int):=by rw [hsz]; omega
  clear hsz
  by_cases h1 : kind=1
  ·subst h1
   by_cases h0 : r.value=0
   ·have hok : r.Ok 1:=⟨by omega,Or.inl ⟨rfl,h0⟩⟩
    have heq:=HQ.out
    rw [show decide (r.value=0)=true by simp [h0]] at heq
    clear h0 hlong
    have HO:=Lib.hid (putReplyV_ok hok)
    have HE:=Lib.hid (fun (S:Nat→Prop) v W (h:SlF S (r.fo 1) v W) (hS:∀ k,S k→k<W.heap.size)=>renc_list h hS (by have:=ReplyP.fo_len HW.out hok; omega))
    have hbl:=ReplyP.body_len HW.out hok
    have hbs : (str (r.body 1)).size=(r.body 1).length:=str_size _
    have HS5:=Lib.hid (fun W=>rsum_c (s:=str (r.body 1)) (by rw [hbs]; unfold maxLen; omega) W)
    have hc:=conv_be4 (sumN (str (r.body 1))) (sumN_lt4 _)
    have hF : str (be4 (sumN (str (r.body 1)))) ++ str (r.body 1)=str (r.enc 1):=str_append _ _
    have hz4 : (str (be4 (sumN (str (r.body 1))))).size=4:=by rw [str_size]; rfl
    have HR:=Lib.hid hF
    have hn:=sumN_lt4 (r.body 1)
    rw [show str (It.list (r.fo 1)).enc=str (r.body 1) from rfl] at HE
    generalize str (r.enc 1)=z at *
    generalize sumN (str (r.body 1))=n at *
    generalize str (be4 n)=y at *
    generalize str (r.body 1)=x at *
    have hbig : ¬ 9223372036854775807<y.size+x.size:=by omega
    clear hF hbl hbs
    clear hok
    have HX:=Lib.hid (show r.fo 1=(Fo.text (num r.id) .nil).app (.text (num r.nonce) (.text (wordL r.bal) (.text r.code .nil))) from rfl)
    go_upto_region 6 with fail
    clear heq hlg c0 c1 c2 c3 c4 c5 c6 c7 c8 c9 c10
    have H0 : RRepB w r (w1.alloc (.cells #[.bool false,.string (str (num r.id)),.slice none 0 0] 125)).drew:=HB.out.1.call (Below.refl _ _).drew
    have ho : OwnR w1.heap.size (.text (num r.id) .nil) (.slice (some ⟨w1.heap.size,0,none⟩) 1 1) (w1.alloc (.cells #[.bool false,.string (str (num r.id)),.slice none 0 0] 125)).drew:=HB.out.2.1.kept (fun _ _ _=>rfl) (Nat.le_refl _)
    have hq1 : w.heap.size<w1.heap.size∧w1.heap.size≤(w1.alloc (.cells #[.bool false,.string (str (num r.id)),.slice none 0 0] 125)).drew.heap.size:=⟨HB.out.2.2.1,HB.out.2.2.2⟩
    generalize (w1.alloc (.cells #[.bool false,.string (str (num r.id)),.slice none 0 0] 125))=U at *
    generalize w1.heap.size=q9 at *
    have HS:=Lib.hid (fun (V:World) (hV:RRepB w r V)=>hV.cells)
    refine Drawn.start (fun V=>RRepB w r V) (fun _=>false) (by kernel_rfl) ?_
    refine Drawn.tk 0 (some 28) (v:=?_) rfl rfl (by kernel_rfl) rfl (fun _ _ _ h=>h) (Or.inl ⟨rfl,?_⟩) H0 ?_
    rotate_left
    ·intro W hW; have hW:=HS.out W hW; go_simp; try with_reducible rfl
    simp only [put_list,List.set]
    refine Drawn.tk 1 (some 29) (v:=?_) rfl rfl (by kernel_rfl) rfl (fun _ _ _ h=>h) (Or.inl ⟨rfl,?_⟩) H0 ?_
    rotate_left
    ·intro W hW; have hW:=HS.out W hW; go_simp; try with_reducible rfl
    simp only [put_list,List.set]
    refine Drawn.tk 2 (some 30) (v:=?_) rfl rfl (by kernel_rfl) rfl (fun _ _ _ h=>h) (Or.inl ⟨rfl,?_⟩) H0 ?_
    rotate_left
    ·intro W hW; have hW:=HS.out W hW; go_simp; try with_reducible rfl
    simp only [put_list,List.set]
    refine Drawn.tk 3 (some 31) (v:=?_) rfl rfl (by kernel_rfl) rfl (fun _ _ _ h=>h) (Or.inl ⟨rfl,?_⟩) H0 ?_
    rotate_left
    ·intro W hW; have hW:=HS.out W hW; go_simp; try with_reducible rfl
    simp only [put_list,List.set]
    refine Drawn.tk 5 (some 33) (v:=?_) rfl rfl (by kernel_rfl) rfl (fun _ _ _ h=>h) (Or.inl ⟨rfl,?_⟩) H0 ?_
    rotate_left
    ·intro W hW; have hW:=HS.out W hW; go_simp; try with_reducible rfl
    simp only [put_list,List.set]
    refine Drawn.tk 6 (some 34) (v:=?_) rfl rfl (by kernel_rfl) rfl (fun _ _ _ h=>h) (Or.inl ⟨rfl,?_⟩) H0 ?_
    rotate_left
    ·intro W hW; have hW:=HS.out W hW; go_simp; try with_reducible rfl
    simp only [put_list,List.set]
    refine Drawn.tk 7 (some 35) (v:=?_) rfl rfl (by kernel_rfl) rfl (fun _ _ _ h=>h) (Or.inl ⟨rfl,?_⟩) H0 ?_
    rotate_left
    ·intro W hW; have hW:=HS.out W hW; go_simp; try with_reducible rfl
    simp only [put_list,List.set]
    refine Drawn.tk 10 (some 38) (v:=?_) rfl rfl (by kernel_rfl) rfl (fun _ _ _ h=>h) (Or.inl ⟨rfl,?_⟩) H0 ?_
    rotate_left
    ·intro W hW; have hW:=HS.out W hW; go_simp; try with_reducible rfl
    simp only [put_list,List.set]
    refine Drawn.tk 11 (some 39) (v:=?_) rfl rfl (by kernel_rfl) rfl (fun _ _ _ h=>h) (Or.inl ⟨rfl,?_⟩) H0 ?_
    rotate_left
    ·intro W hW; have hW:=HS.out W hW; go_simp; try with_reducible rfl
    simp only [put_list,List.set]
    refine Drawn.tk 12 (some 40) (v:=?_) rfl rfl (by kernel_rfl) rfl (fun _ _ _ h=>h) (Or.inl ⟨rfl,?_⟩) H0 ?_
    rotate_left
    ·intro W hW; have hW:=HS.out W hW; go_simp; try with_reducible rfl
    simp only [put_list,List.set]
    refine Drawn.only 4 (by kernel_rfl) rfl rfl (fun K hK=>?_)
    go_simp
    refine (HC2.out _).mono ?_
    rintro e V4 ⟨rfl,hb⟩
    refine hK _ _ (fun _ _=>H0.call hb) ?_
    replace H0:=H0.call hb
    replace ho:=ho.kept (fun k _ hk=>hb.block k hk) hb.size
    replace hq1:=And.intro hq1.1 (Nat.le_trans hq1.2 hb.size)
    clear hK K hb
    try simp only [put_list,List.set]
    refine Drawn.only 8 (by kernel_rfl) rfl rfl (fun K hK=>?_)
    go_simp
    refine (HC3.out _).mono ?_
    rintro e V8 ⟨rfl,hb⟩
    refine hK _ _ (fun _ _=>H0.call hb) ?_
    replace H0:=H0.call hb
    replace ho:=ho.kept (fun k _ hk=>hb.block k hk) hb.size
    replace hq1:=And.intro hq1.1 (Nat.le_trans hq1.2 hb.size)
    clear hK K hb
    try simp only [put_list,List.set]
    refine Drawn.only 9 (by kernel_rfl) rfl rfl (fun K hK=>?_)
    go_simp
    refine (HC4.out _).mono ?_
    rintro e V9 ⟨rfl,hb⟩
    refine hK _ _ (fun _ _=>H0.call hb) ?_
    replace H0:=H0.call hb
    replace ho:=ho.kept (fun k _ hk=>hb.block k hk) hb.size
    replace hq1:=And.intro hq1.1 (Nat.le_trans hq1.2 hb.size)
    clear hK K hb
    try simp only [put_list,List.set]
    refine Drawn.only 13 (by kernel_rfl) rfl rfl (fun K hK=>?_)
    go_simp
    refine (HC5.out _).mono ?_
    rintro e V13 ⟨rfl,hb⟩
    refine hK _ _ (fun _ _=>H0.call hb) ?_
    replace H0:=H0.call hb
    replace ho:=ho.kept (fun k _ hk=>hb.block k hk) hb.size
    replace hq1:=And.intro hq1.1 (Nat.le_trans hq1.2 hb.size)
    clear hK K hb
    try simp only [put_list,List.set]
    refine Drawn.only 14 (by kernel_rfl) rfl rfl (fun K hK=>?_)
    go_simp
    have hb : Below V13.heap.size V13 (V13.alloc (.cells #[.bool false,.string (str (num r.nonce)),.slice none 0 0,.bool false,.string (str (wordL r.bal)),.slice none 0 0,.bool false,.string (str r.code),.slice none 0 0] 125)):=(Below.refl _ _).alloc (Nat.le_refl _) _
    have hz:=heap_alloc_new V13 (.cells #[.bool false,.string (str (num r.nonce)),.slice none 0 0,.bool false,.string (str (wordL r.bal)),.slice none 0 0,.bool false,.string (str r.code),.slice none 0 0] 125)
    refine hK _ _ (fun _ _=>H0.call hb) ?_
    replace H0:=H0.call hb
    replace ho:=ho.kept (fun k _ hk=>hb.block k hk) hb.size
    replace hq1:=And.intro hq1.1 (Nat.le_trans hq1.2 hb.size)
    clear hK K hb
    try simp only [put_list,List.set]
    generalize V13.alloc (.cells #[.bool false,.string (str (num r.nonce)),.slice none 0 0,.bool false,.string (str (wordL r.bal)),.slice none 0 0,.bool false,.string (str r.code),.slice none 0 0] 125)=U1 at *
    generalize V13.heap.size=q13 at *
    refine Drawn.only 15 (by kernel_rfl) rfl rfl (fun K hK=>?_)
    refine wp_append_foR _ _ rfl q9 (.slice (some ⟨q9,0,none⟩) 1 1) _ (.text (num r.nonce) (.text (wordL r.bal) (.text r.code .nil))) 3 [.bool false,.string (str (num r.nonce)),.slice none 0 0,.bool false,.string (str (wordL r.bal)),.slice none 0 0,.bool false,.string (str r.code),.slice none 0 0] (by rfl) ho rfl (by intro u hu; simp only [List.mem_cons,List.not_mem_nil,or_false] at hu; rcases hu with rfl | rfl | rfl | rfl | rfl | rfl | rfl | rfl | rfl <;> rfl) (fo3_cel _ _ _ _) q13 (by rfl) hz hq1.2 (by simp [Fo.len]) ?_
    intro v4 W4 ho4 hg4 _
    rw [← HX.out] at ho4
    have hsl4:=ho4.sl
    obtain⟨a4,m4,n4,rfl⟩:=hsl4.form
    have hbl4 : Below w.heap.size w W4:=H0.1.grown hg4 H0.1.size (fun j hj=>by have:=(ho.blk j hj).1; have:=hq1.1; omega)
    have H4:=Lib.hid (And.intro hsl4 hbl4)
    have HS4 : RRepB w r W4:=⟨hbl4,(hg4.block _ (lt_of H0.2) (fun e=>by have:=(ho.blk _ e.symm).1; have:=hq1.1; omega)).trans H0.2⟩
    refine hK _ _ (fun _ _=>HS4) ?_
    clear hK K hsl4 hbl4 hg4 ho4 hz ho H0
    try simp only [put_list,List.set]
    refine Drawn.tk 16 (some 6) (v:=?_) rfl rfl (by kernel_rfl) rfl (fun _ _ _ h=>h) (Or.inl ⟨rfl,?_⟩) HS4 ?_
    rotate_left
    ·intro W hW; have hW:=HS.out W hW; go_simp; try with_reducible rfl
    try simp only [put_list,List.set]
    refine Drawn.done (by kernel_rfl) ?_ _
    clear HS4 HS hq1
    go_wp2_with (first
      | (go_at_call 115; refine (HE.out _ _ _ H4.out.1 (fun k hk=>hk.2)).mono ?_; rintro e w5 ⟨rfl,h5⟩; have H5:=Lib.hid h5; clear h5)
      | (go_at_call 116; refine (HS5.out _).mono ?_; rintro e w6 ⟨rfl,rfl⟩))
    go_ret2
    exact⟨by rw [HO.out,← HR.out]; rfl,by
      have hb:=H4.out.2.trans (H5.out.mono H4.out.2.size)
      exact hb.alloc hb.size _⟩
   ·have hok : ¬ r.Ok 1:=fun h=>by rcases h.2 with h | h; exact h0 h.2; exact absurd h.1 (by decide)
    have heq:=HQ.out
    rw [show decide (r.value=0)=false by simp [h0]] at heq
    clear h0 hlong
    have HO:=Lib.hid (putReplyV_no hok)
    clear hok
    go_wp2_with fail
    go_ret2
    exact⟨by rw [HO.out]; rfl,HB.out.1.1⟩
  ·by_cases h2 : kind=2
   ·subst h2
    by_cases h0 : r.nonce=0∧r.bal=0∧r.code=[]
    ·have hok : r.Ok 2:=⟨by omega,Or.inr ⟨rfl,h0⟩⟩
     have heq:=HQ2.out
     rw [show decide (r.nonce=0∧r.bal=0∧r.code=[])=true by simp [h0]] at heq
     clear h0 hlong h1
     have HO:=Lib.hid (putReplyV_ok hok)
     have HE:=Lib.hid (fun (S:Nat→Prop) v W (h:SlF S (r.fo 2) v W) (hS:∀ k,S k→k<W.heap.size)=>renc_list h hS (by have:=ReplyP.fo_len HW.out hok; omega))
     have hbl:=ReplyP.body_len HW.out hok
     have hbs : (str (r.body 2)).size=(r.body 2).length:=str_size _
     have HS5:=Lib.hid (fun W=>rsum_c (s:=str (r.body 2)) (by rw [hbs]; unfold maxLen; omega) W)
     have hc:=conv_be4 (sumN (str (r.body 2))) (sumN_lt4 _)
     have hF : str (be4 (sumN (str (r.body 2)))) ++ str (r.body 2)=str (r.enc 2):=str_append _ _
     have hz4 : (str (be4 (sumN (str (r.body 2))))).size=4:=by rw [str_size]; rfl
     have HR:=Lib.hid hF
     have hn:=sumN_lt4 (r.body 2)
     rw [show str (It.list (r.fo 2)).enc=str (r.body 2) from rfl] at HE
     generalize str (r.enc 2)=z at *
     generalize sumN (str (r.body 2))=n at *
     generalize str (be4 n)=y at *
     generalize str (r.body 2)=x at *
     have hbig : ¬ 9223372036854775807<y.size+x.size:=by omega
     clear hF hbl hbs
     clear hok
     have HX:=Lib.hid (show r.fo 2=(Fo.text (num r.id) .nil).app ((It.text (wordL r.value)).fo .nil) from rfl)
     obtain⟨hB8,hB9⟩:=HB.out.2.2
     go_upto_region 8 with fail
     generalize (w1.alloc (.cells #[.bool false,.string (str (num r.id)),.slice none 0 0] 125))=U at *
     go_wp2_with (first
       | (go_at_call 114; refine (HC6.out _).mono ?_; rintro e w2 ⟨rfl,h3⟩; have HM:=Lib.hid h3; clear h3)
       | (go_at_call 113; refine (HC7.out _).mono ?_; rintro e w3 ⟨rfl,h4⟩; have h3:=HM.out.trans (h4.mono HM.out.size); have hown3:=(HB.out.2.1.kept (fun k _ hk=>h3.block k hk) h3.size).kept (fun k _ hk=>Below.heap_alloc w3 (.cells #[.bool false,.string (str (wordL r.value)),.slice none 0 0] 125) k hk) (by simp); have hz3:=heap_alloc_new w3 (.cells #[.bool false,.string (str (wordL r.value)),.slice none 0 0] 125); have hbs3 : w1.heap.size≤(w3.alloc (.cells #[.bool false,.string (str (wordL r.value)),.slice none 0 0] 125)).heap.size:=(by have:=h3.size; simp; omega); have hb3:=(HB.out.1.1.trans (h3.mono HB.out.1.1.size)).alloc (Nat.le_trans HB.out.1.1.size h3.size) (.cells #[.bool false,.string (str (wordL r.value)),.slice none 0 0] 125); have H3:=Lib.hid (And.intro hown3 (And.intro hz3 hb3)); clear h3 h4 hown3 hz3 hb3)
       | (at_builtin; refine wpList_append_itemR rfl _ _ rfl w1.heap.size (.slice (some ⟨w1.heap.size,0,none⟩) 1 1) _ (.text (wordL r.value)) false (str (wordL r.value)) (.slice none 0 0) (fun _=>False) (by rfl) H3.out.1 (fun _ h=>h.elim) rfl ⟨[],rfl,rfl⟩ _ (by rfl) H3.out.2.1 hbs3 (by simp [Fo.len]) ?_; intro v4 W4 ho4 hg4 _; rw [← HX.out] at ho4; have hsl4:=ho4.sl; obtain⟨a4,m4,n4,rfl⟩:=hsl4.form; have hbl : Below w.heap.size w W4:=H3.out.2.2.grown hg4 H3.out.2.2.size (fun j hj=>(by have:=(H3.out.1.blk j hj).1; omega)); have H4:=Lib.hid (And.intro hsl4 hbl); clear ho4 hg4 hsl4 hbl)
       | (go_at_call 115; refine (HE.out _ _ _ H4.out.1 (fun k hk=>hk.2)).mono ?_; rintro e w5 ⟨rfl,h5⟩; have H5:=Lib.hid h5; clear h5)
       | (go_at_call 116; refine (HS5.out _).mono ?_; rintro e w6 ⟨rfl,rfl⟩))
     go_ret2
     exact⟨by rw [HO.out,← HR.out]; rfl,by
       have hb:=H4.out.2.trans (H5.out.mono H4.out.2.size)
       exact hb.alloc hb.size _⟩
    ·have hok : ¬ r.Ok 2:=fun h=>by rcases h.2 with h | h; exact absurd h.1 (by decide); exact h0 h.2
     have heq:=HQ2.out
     rw [show decide (r.nonce=0∧r.bal=0∧r.code=[])=false by simp [h0]] at heq
     clear h0 hlong h1
     have HO:=Lib.hid (putReplyV_no hok)
     clear hok
     go_wp2_with fail
     go_ret2
     exact⟨by rw [HO.out]; rfl,HB.out.1.1⟩
   ·have hok : ¬ r.Ok kind:=fun h=>by rcases h.2 with h | h; exact h1 h.1; exact h2 h.1
    have hb1 : (kind == 1)=false:=by simp [h1]
    have hb2 : (kind == 2)=false:=by simp [h2]
    clear hlong
    have HO:=Lib.hid (putReplyV_no hok)
    clear hok
    go_wp2_with fail
    go_ret2
    exact⟨by rw [HO.out]; rfl,HB.out.1.1⟩
end Go.Proofs.YtekoaheiapddiaaGreat
end
section
namespace Go.Proofs.YtekoaheiapddiaaGreat
open Go.RowKit
theorem it_text {x : It} {r r' : Fo} {s : List UInt8} (h:x.fo r=.text s r') : x=.text s∧r=r':=by
 cases x with
 | text t=>simp only [It.fo,Fo.text.injEq] at h; exact⟨by rw [h.1],h.2⟩
 | list i=>simp [It.fo] at h
theorem small_num {n : Nat} (h:n<M64) : smallR (.text (num n))=(n,true):=by
 have h1 : smallL (num n)=true:=by
  have:=num8 h
  have h2:=num_head0 n
  simp [smallL,this,h2]
 rw [show smallR (.text (num n))=(val (num n),true) from if_pos h1,val_num]
theorem small_lt (x:It) : (smallR x).1<M64:=by
 cases x with
 | list i=>show 0<M64; decide
 | text s=>
  by_cases h : smallL s=true
  ·rw [show smallR (.text s)=(val s,true) from if_pos h]
   have h8:=(smallL_ok h).1
   exact Nat.lt_of_lt_of_le (val_lt s) (by unfold M64; exact Nat.le_trans (Nat.pow_le_pow_right (by decide) h8) (by decide))
  ·rw [show smallR (.text s)=(0,false) from if_neg h]; decide
def slotOf : Fo→Nat
 | .text s _=>if s.length≤32 then ofL s else 0
 | _=>0
theorem slotOf_it (x:It) (r:Fo) : slotOf (x.fo r)=if x.txt.length≤32 then ofL x.txt else 0:=by
 cases x with
 | text s=>rfl
 | list i=>rfl
theorem slot_lt (f:Fo) : slotOf f<W256:=by
 cases f with
 | nil=>show 0<W256; decide
 | list i r=>show 0<W256; decide
 | text s r=>
  show (if s.length≤32 then ofL s else 0)<W256
  split
  ·rename_i h; exact ofL_lt h
  ·decide
def kindOf (k:Nat) : Int:=if k=1∨k=2 then (k:Int) else 0
def askOf (x0 x1 x2 : It) (r:Fo) : AskP:=⟨(smallR x0).1,x2.txt,slotOf r,kindOf (smallR x1).1⟩
theorem askOf_wf (x0 x1 x2 : It) (r:Fo) : (askOf x0 x1 x2 r).Wf:=by
 refine⟨small_lt _,slot_lt _,?_⟩
 show -9223372036854775808≤kindOf _∧kindOf _≤9223372036854775807
 unfold kindOf
 split <;> omega
theorem askOf_fo {b : AskP} (hw:b.Wf) (ho:b.Ok) {x0 x1 x2 : It} {r : Fo} (h:b.fo=x0.fo (x1.fo (x2.fo r))) : askOf x0 x1 x2 r=b:=by
 unfold AskP.fo at h
 obtain⟨e0,h1⟩:=it_text h.symm
 obtain⟨e1,h2⟩:=it_text h1
 obtain⟨e2,h3⟩:=it_text h2
 subst e0 e1 e2
 clear h h1 h2
 have hk:=ho.2
 obtain⟨i,ad,sl,kd⟩:=b
 simp only at h3 hk
 have hkn : (kd.toNat : Nat)<M64:=by unfold M64; omega
 unfold askOf
 rw [small_num hw.id,small_num hkn,h3]
 simp only [It.txt]
 rcases hk with rfl | ⟨rfl,rfl⟩
 ·rw [if_pos rfl]
  show (⟨i,ad,(if (wordL sl).length≤32 then ofL (wordL sl) else 0),_⟩ : AskP)=_
  rw [if_pos (by rw [wordL_len]; omega),ofL_word hw.slot]
  rfl
 ·rfl
theorem fo_len3 {b : AskP} : 3≤b.fo.len:=by
 unfold AskP.fo
 split <;> simp [Fo.len]
theorem fo_three {f : Fo} (h:3≤f.len) : ∃ x0 x1 x2 r,f=It.fo x0 (It.fo x1 (It.fo x2 r)):=by
 rcases f.cases_it with rfl | ⟨x0,f1,rfl⟩
 ·simp [Fo.len] at h
 rw [fo_len] at h
 rcases f1.cases_it with rfl | ⟨x1,f2,rfl⟩
 ·simp [Fo.len] at h
 rw [fo_len] at h
 rcases f2.cases_it with rfl | ⟨x2,r,rfl⟩
 ·simp [Fo.len] at h
 exact⟨x0,x1,x2,r,rfl⟩
structure Ga (w:World) (S:Nat→Prop) (f:Fo) (g o : Nat) (L:List (Nat×Array Value×TypeId)) (W:World) : Prop where
 kb : Kb w L W
 at_ : f.At S g o W
 lt : ∀ k,S k→k<W.heap.size
 sg : S g
section
variable {w W W' : World} {S : Nat→Prop} {f : Fo} {g o : Nat} {L : List (Nat×Array Value×TypeId)}
theorem Ga.call (h:Ga w S f g o L W) (hb:Below W.heap.size W W') : Ga w S f g o L W':=
 ⟨h.kb.call hb,Fo.At.kept (fun k hk=>hb.block k (h.lt k hk)) f g o h.sg h.at_,fun k hk=>Nat.lt_of_lt_of_le (h.lt k hk) hb.size,h.sg⟩
theorem Ga.box (h:Ga w S f g o L W) (cs:Array Value) (t:TypeId) : Ga w S f g o ((W.heap.size,cs,t) :: L) (W.alloc (.cells cs t)):=by
 have hc:=h.call ((Below.refl _ _).alloc (Nat.le_refl _) (.cells cs t))
 exact⟨h.kb.box cs t,hc.at_,hc.lt,hc.sg⟩
theorem Ga.cast {b : Nat} {cs cs' : Array Value} {t : TypeId} (h:Ga w S f g o ((b,cs,t) :: L) W) (e:cs=cs') : Ga w S f g o ((b,cs',t) :: L) W:=e ▸ h
theorem Ga.set {b : Nat} {cs cs' : Array Value} {t : TypeId} (h:Ga w S f g o ((b,cs,t) :: L) W) (hb:w.heap.size≤b) (hS:∀ k,S k→k≠b) (hL:∀ p∈L,p.1≠b) (j:Nat) (u:Value) (hc:cs.setIfInBounds j u=cs') :
  Ga w S f g o ((b,cs',t) :: L) (W.setCell ⟨b,j,none⟩ u):=by
 subst hc
 have hh:=h.kb.blk _ (.head _)
 refine⟨⟨h.kb.below.setCell (p:=⟨b,j,none⟩) hb u,fun p hp=>?_⟩,Fo.At.kept (fun k hk=>heap_setCell_other _ _ _ _ (by simpa using hS k hk)) f g o h.sg h.at_,fun k hk=>?_,h.sg⟩
 ·rcases List.mem_cons.1 hp with rfl | hp
  ·exact heap_setCell_same _ _ _ _ _ _ hh
  ·exact (heap_setCell_other _ _ _ _ (by simpa using hL p hp)).trans (h.kb.blk p (.tail _ hp))
 ·have:=h.lt k hk
  simpa [World.setCell] using this
end
theorem Ga.items {w W : World} {S : Nat→Prop} {x0 x1 x2 : It} {r : Fo} {g o : Nat} {L : List (Nat×Array Value×TypeId)} (h:Ga w S (x0.fo (x1.fo (x2.fo r))) g o L W) :
  (∃ b a n c,W.cell? ⟨g,o,none⟩=some (.bool b)∧W.cell? ⟨g,o+1,none⟩=some (.string (str x0.txt))∧W.cell? ⟨g,o+2,none⟩=some (.slice a n c)∧ItV S x0 (.agg #[.bool b,.string (str x0.txt),.slice a n c]) W) ∧
  (∃ b a n c,W.cell? ⟨g,o+3,none⟩=some (.bool b)∧W.cell? ⟨g,o+4,none⟩=some (.string (str x1.txt))∧W.cell? ⟨g,o+5,none⟩=some (.slice a n c)∧ItV S x1 (.agg #[.bool b,.string (str x1.txt),.slice a n c]) W) ∧
  (∃ b a n c,W.cell? ⟨g,o+6,none⟩=some (.bool b)∧W.cell? ⟨g,o+7,none⟩=some (.string (str x2.txt))∧W.cell? ⟨g,o+8,none⟩=some (.slice a n c)∧ItV S x2 (.agg #[.bool b,.string (str x2.txt),.slice a n c]) W) ∧
  (∀ x3 r',r=It.fo x3 r'→∃ b a n c,W.cell? ⟨g,o+9,none⟩=some (.bool b)∧W.cell? ⟨g,o+10,none⟩=some (.string (str x3.txt))∧W.cell? ⟨g,o+11,none⟩=some (.slice a n c)∧ItV S x3 (.agg #[.bool b,.string (str x3.txt),.slice a n c]) W):=by
 have tx : ∀ {x : It} {b : Bool} {t : ByteArray} {l : Value},ItV S x (.agg #[.bool b,.string t,l]) W→t=str x.txt:=fun hv=>by
  obtain⟨b',l',e⟩:=hv.txt
  injection e with e
  simp at e
  exact e.2.1
 obtain⟨b0,t0,a0,n0,c0,p0,p1,p2,p3,h1⟩:=At_cons h.at_
 obtain⟨b1,t1,a1,n1,c1,q0,q1,q2,q3,h2⟩:=At_cons h1
 obtain⟨b2,t2,a2,n2,c2,s0,s1,s2,s3,h3⟩:=At_cons h2
 obtain rfl:=tx p3
 obtain rfl:=tx q3
 obtain rfl:=tx s3
 refine⟨⟨b0,_,_,_,p0,p1,p2,p3⟩,⟨b1,_,_,_,q0,q1,q2,q3⟩,⟨b2,_,_,_,s0,s1,s2,s3⟩,fun x3 r' hr=>?_⟩
 subst hr
 obtain⟨b4,t4,a4,n4,c4,u0,u1,u2,u3,h4⟩:=At_cons h3
 obtain rfl:=tx u3
 exact⟨b4,_,_,_,u0,u1,u2,u3⟩
end Go.Proofs.YtekoaheiapddiaaGreat
end
