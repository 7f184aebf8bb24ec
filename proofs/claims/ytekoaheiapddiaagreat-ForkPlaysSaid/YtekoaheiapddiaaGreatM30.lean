/- Merged: Fn, Fo, Fp, Fq. -/
import Derived.Test.YtekoaheiapddiaaGreatM29
import Derived.Test.YtekoaheiapddiaaGreatM23
import Derived.Test.YtekoaheiapddiaaGreatM07
import Derived.Test.YtekoaheiapddiaaGreatM21
section
namespace Go.Proofs.YtekoaheiapddiaaGreat.Dz
open Go.RowKit
section
variable {p : Pd} {name : Nm} {d N : Nat} {F : Nat→Prop} {W : World}
theorem CAt.fresh : CAt ⟨[],[],[]⟩ name d (W.heap.size+1) W.heap.size (.slice none 0 0) (.slice none 0 0) ((W.alloc (.map #[] 0)).alloc (.cells (cellsC d W.heap.size name (.slice none 0 0) (.slice none 0 0)) 114)):=by
 have h1:=heap_alloc_new (W.alloc (.map #[] 0)) (.cells (cellsC d W.heap.size name (.slice none 0 0) (.slice none 0 0)) 114)
 rw [alloc_size] at h1
 exact⟨h1,⟨#[],0,(Below.heap_alloc _ _ _ (by simp)).trans (MapKept.heap_alloc W _).1,rfl⟩,Of.nil _ _ _,World.ownsRow_nil _ _ _ _,fun k hk=>(by cases hk),KOk.nil⟩
structure Nw (W:World) (name:Nm) (d:Nat) (K:KL) (l:List Nm) (v:Value) (V:World) : Prop where
 at' : CAt ⟨K,[],[]⟩ name d (W.heap.size+1) W.heap.size (.slice none 0 0) (.slice none 0 0) V
 below : Below W.heap.size W V
 row : OwnS (W.heap.size+2) l v V
theorem Nw.call {K : KL} {l : List Nm} {v : Value} {V V' : World} (h:Nw W name d K l v V) (hb:Below V.heap.size V V') : Nw W name d K l v V':=
 ⟨h.at'.below hb,h.below.trans (hb.mono h.below.size),h.row.keep hb⟩
theorem Nw.put {K K' : KL} {l : List Nm} {v : Value} {V : World} {o : Obj} (h:Nw W name d K l v V) (hK:KOk K') (ho:MapIs W.heap.size K' (ChangeMaps.setBlock V W.heap.size o)) : Nw W name d K' l v (ChangeMaps.setBlock V W.heap.size o):=by
 obtain⟨h1,h2⟩:=h.at'.newKnown hK ho
 refine⟨h1,⟨h2.os.trans h.below.os,h2.tape.trans h.below.tape,h2.output.trans h.below.output,Nat.le_trans h.below.size h2.size,fun k hk=>(setBlock_other (by omega)).trans (h.below.block k hk)⟩,own_keep h.row fun k hk=>setBlock_other (by have:=(h.row.lt hk).1; omega)⟩
set_option maxRecDepth 100000 in
set_option maxHeartbeats 8000000 in
theorem cnew_c (h:On p d N F W) (hs:name.length≤maxLen) {l : List Nm} {r : Nm} (hF:Fs (bsE (getE p.L name)) l r) :
  Calls Tryz.prog 16 #[.pointer (some ⟨d,0,none⟩),.string (str name)] W fun e W'=>e=.returned (.pointer (some ⟨W.heap.size+1,0,none⟩))∧CAt ⟨knownOf l,[],[]⟩ name d (W.heap.size+1) W.heap.size (.slice none 0 0) (.slice none 0 0) W'∧Below W.heap.size W W':=by
 have hb0 : Below W.heap.size W ((W.alloc (.map #[] 0)).alloc (.cells (cellsC d W.heap.size name (.slice none 0 0) (.slice none 0 0)) 114)):=((Below.refl _ _).alloc (Nat.le_refl _) _).alloc (by simp) _
 have HC:=Lib.hid (And.intro (CAt.fresh (d:=d) (name:=name) (W:=W)) hb0)
 have HA:=Lib.hid ((h.below hb0).all hs hF)
 have hlen : l.length≤1048576:=by
  have h1:=bs_le h.ok name
  have h3:=congrArg List.length hF.eq
  have h4 : ∀ l : List Nm,l.length≤(frs l).length:=fun l=>by
   induction l with
   | nil=>simp
   | cons t l ih=>simp only [frs,List.length_cons,List.length_append,fr_len]; omega
  have h5:=h4 l
  rw [List.length_append] at h3
  omega
 have hmm:=@run_makeMap Tryz.prog
 clear h hs hF hb0
 unfold cellsC at HC HA
 go_enter Tryz.func16,Tryz.ntmps16
 go_wp2_with fail
 refine HA.out.mono ?_
 rintro e V1 ⟨v,rfl,hv,hb⟩
 obtain⟨va,vc,rfl⟩:=hv.form
 have M1 : Nw W name d [] l (.slice va l.length vc) V1:=⟨HC.out.1.below hb,HC.out.2.trans (hb.mono HC.out.2.size),by have:=hv; rw [alloc_size,alloc_size] at this; exact this⟩
 have HM1:=Lib.hid M1
 clear M1 hv hb HC HA
 have HL:=Lib.hid hlen
 clear hlen
 generalize hn : l.length=n at *
 have HN:=Lib.hid hn
 clear hn
 go_wp2_with fail
 go_loopw [20] (fun i wr=>∃ k : Nat,i=.int .i64 k∧k≤n∧Nw W name d ((l.take k).foldl knowT []) l (.slice va n vc) wr) (fun i _=>n-(intOf i).toNat)
 case atStart=>exact⟨0,rfl,by omega,HM1.out⟩
 case round=>
  clear HM1
  obtain⟨k,rfl,hk,M⟩:=hrel
  by_cases hlt : k<n
  ·obtain⟨s,hs⟩ : ∃ s,l[k]?=some s:=⟨l[k]'(by rw [HN.out]; exact hlt),List.getElem?_eq_getElem _⟩
   obtain⟨nn,hnn⟩ : ∃ nn,n=nn+1:=⟨n-1,by omega⟩
   obtain⟨g,c,hsv,_,_,hc⟩:=M.row.ptr (n:=nn) (by rw [HN.out]; exact hnn)
   obtain⟨rfl,rfl⟩ : va=some ⟨g,0,none⟩∧vc=c:=by injection hsv with q1 _ q3; exact⟨q1,q3⟩
   have c0:=M.row.cell HN.out hs
   have hlti : (k:Int)<(n:Int):=by omega
   have hk0 : (0:Int)≤(k:Int):=by omega
   have hw : IntKind.i64.wrap ((k:Int)+1)=(k:Int)+1:=IntWalk.i64_in _ (by have:=HL.out; omega)
   have FC:=Lib.hid (fun V=>fact_c s V)
   have htk : (l.take (k+1)).foldl knowT []=knowT ((l.take k).foldl knowT []) s:=by
    rw [List.take_add_one,hs]
    simp [List.foldl_append]
   have HT:=Lib.hid (And.intro htk (And.intro hlt hk))
   have HM:=Lib.hid M
   clear M hs hnn hsv hc htk hk hlt
   cases hf : factV s with
   | none=>
    have hkn : knowT ((l.take k).foldl knowT []) s=(l.take k).foldl knowT []:=by unfold knowT; rw [hf]
    have HK:=Lib.hid hkn
    rw [hf] at FC
    clear hkn hf
    unfold factO at FC
    rw [zeroV,show askV AskP.zero=.agg (askCells AskP.zero) from rfl,zeroAsk] at FC
    go_wp2_with fail
    refine (FC.out _).mono ?_
    rintro e V2 ⟨rfl,hb⟩
    have M2:=HM.out.call hb
    have HM2:=Lib.hid M2
    clear FC c0 HM hb M2
    go_wp2_with fail
    obtain⟨h1,h2,h3⟩:=HT.out
    exact⟨⟨k+1,by go_num,by omega,by rw [h1,HK.out]; exact (HM2.out.call ((Below.refl _ _).alloc (Nat.le_refl _) _)).call ((Below.refl _ _).alloc (Nat.le_refl _) _)⟩,by simp [intOf]; omega⟩
   | some pr=>
    obtain⟨a,r9⟩:=pr
    have hfs:=factV_some hf
    have hkn : knowT ((l.take k).foldl knowT []) s=putK ((l.take k).foldl knowT []) a r9:=by unfold knowT; rw [hf]
    have HK:=Lib.hid (And.intro hkn hfs)
    rw [hf] at FC
    clear hkn hf hfs
    unfold factO at FC
    simp only at FC
    unfold askV replyV at FC
    generalize (l.take k).foldl knowT []=K at *
    go_wp2_with fail
    refine (FC.out _).mono ?_
    rintro e V2 ⟨rfl,hb⟩
    have M2:=HM.out.call hb
    have B2:=((Bl.start V2).alloc (aO a)).alloc (rO r9)
    rw [alloc_size] at B2
    have M4:=(M2.call ((Below.refl _ _).alloc (Nat.le_refl _) (.cells (askCells a) 117))).call ((Below.refl _ _).alloc (Nat.le_refl _) (.cells (replyCells r9) 119))
    clear FC c0 HM hb M2
    unfold aO rO askCells replyCells at B2
    unfold askCells replyCells at M4
    go_wp2_with fail
    obtain⟨qa,hqa⟩ : ∃ qa,qa=V2.heap.size:=⟨_,rfl⟩
    rw [← hqa] at B2 ⊢
    clear hqa
    generalize World.alloc _ _=V4 at B2 M4 ⊢
    have H0 : V4.drew.cell? ⟨W.heap.size+1,2,none⟩=some (.map (some W.heap.size))∧V4.drew.heap[qa]?=some (aO a)∧V4.drew.heap[qa+1]?=some (rO r9):=⟨M4.at'.reads.1.2.2.1,B2.at (q:=qa) (o:=aO a) (memC memS),B2.at (q:=qa+1) (o:=rO r9) memS⟩
    replace M4:=M4.call (Below.refl _ V4).drew
    clear B2
    have HS:=Lib.hid (fun (V:World) (hV:V.cell? ⟨W.heap.size+1,2,none⟩=some (.map (some W.heap.size))∧V.heap[qa]?=some (aO a)∧V.heap[qa+1]?=some (rO r9))=>(show V.cell? ⟨W.heap.size+1,2,none⟩=some (.map (some W.heap.size))∧_∧_ from⟨hV.1,(cells7 hV.2.1).1,(cells11 hV.2.2).1⟩))
    refine Drawn.start (fun V=>V.cell? ⟨W.heap.size+1,2,none⟩=some (.map (some W.heap.size))∧V.heap[qa]?=some (aO a)∧V.heap[qa+1]?=some (rO r9)) (fun j=>j == 6) (by kernel_rfl) ?_
    generalize World.drew _=V5 at M4 H0 ⊢
    refine Drawn.tk 0 (some 31) (v:=?_) rfl rfl (by kernel_rfl) rfl (fun _ _ _ h=>h) (Or.inl ⟨rfl,?_⟩) H0 ?_
    rotate_left
    ·intro W hW; have hW:=HS.out W hW; go_simp; try with_reducible rfl
    simp only [put_list,List.set]
    refine Drawn.tk 1 (some 32) (v:=?_) rfl rfl (by kernel_rfl) rfl (fun _ _ _ h=>h) (Or.inl ⟨rfl,?_⟩) H0 ?_
    rotate_left
    ·intro W hW; have hW:=HS.out W hW; go_simp; try with_reducible rfl
    simp only [put_list,List.set]
    refine Drawn.tk 2 (some 33) (v:=?_) rfl rfl (by kernel_rfl) rfl (fun _ _ _ h=>h) (Or.inl ⟨rfl,?_⟩) H0 ?_
    rotate_left
    ·intro W hW; have hW:=HS.out W hW; go_simp; try with_reducible rfl
    simp only [put_list,List.set]
    refine Drawn.tk 3 (some 34) (v:=?_) rfl rfl (by kernel_rfl) rfl (fun _ _ _ h=>h) (Or.inl ⟨rfl,?_⟩) H0 ?_
    rotate_left
    ·intro W hW; have hW:=HS.out W hW; go_simp; try with_reducible rfl
    simp only [put_list,List.set]
    refine Drawn.tk 4 (some 35) (v:=?_) rfl rfl (by kernel_rfl) rfl (fun _ _ _ h=>h) (Or.inl ⟨rfl,?_⟩) H0 ?_
    rotate_left
    ·intro W hW; have hW:=HS.out W hW; go_simp; try with_reducible rfl
    simp only [put_list,List.set]
    refine Drawn.tk 5 (some 36) (v:=?_) rfl rfl (by kernel_rfl) rfl (fun _ _ _ h=>h) (Or.inl ⟨rfl,?_⟩) H0 ?_
    rotate_left
    ·intro W hW; have hW:=HS.out W hW; go_simp; try with_reducible rfl
    simp only [put_list,List.set]
    refine Drawn.only 6 (by kernel_rfl) rfl rfl (fun K' hK=>?_)
    obtain⟨h1,h2,h3,h4,h5⟩:=HK.out
    obtain⟨o,hrun,hmap⟩:=M4.at'.map.put M4.at'.ok h2 r9
    have M6:=M4.put (M4.at'.ok.put h2 h3 h4 h5) hmap
    have HM6:=Lib.hid M6
    clear h1 h2 h3 h4 h5 hmap M4 H0 HS M6
    unfold askV replyV at hrun
    go_simp
    refine hK _ _ (fun h=>absurd h (by decide)) ?_
    clear hK K' hrun
    try simp only [put_list,put_none,List.set]
    refine Drawn.done (by kernel_rfl) ?_ _
    go_wp2_with fail
    obtain⟨h1,h2,h3⟩:=HT.out
    exact⟨⟨k+1,by go_num,by omega,by rw [h1,HK.out.1]; exact HM6.out⟩,by simp [intOf]; omega⟩
  ·obtain rfl : k=n:=by omega
   have hlti : ¬ ((k:Nat) : Int)<(k:Int):=by omega
   have hall : l.take k=l:=by rw [← HN.out]; exact List.take_length
   have HM:=Lib.hid (show CAt ⟨knownOf l,[],[]⟩ name d (W.heap.size+1) W.heap.size (.slice none 0 0) (.slice none 0 0) wr∧Below W.heap.size W wr from by
     have:=M.at'
     rw [hall] at this
     exact⟨this,M.below⟩)
   clear M hall hk hlt
   go_wp2_with fail
   go_ret
   exact⟨rfl,HM.out⟩
end
end Go.Proofs.YtekoaheiapddiaaGreat.Dz
end
section
namespace Go.Proofs.YtekoaheiapddiaaGreat.Dz
open Go.RowKit
structure ToldP where
 id : Nat
 nonce : Nat
 bal : Nat
 code : Nm
 v : Nat
 kind : Nat
 bad : Bool
 raw : Nm
structure ToldP.Ok (t:ToldP) : Prop where
 id : t.id<M64
 nonce : t.nonce<M64
 bal : t.bal<W256
 code : t.code.length≤4000000000000000000
 v : t.v<W256
 kind : t.kind<256
def toldCells (t:ToldP) : Array Value:=#[.int .u64 t.id,.int .u64 t.nonce,.int .u64 (l3 t.bal : Nat),.int .u64 (l2 t.bal : Nat),.int .u64 (l1 t.bal : Nat),.int .u64 (l0 t.bal : Nat),.string (str t.code),.int .u64 (l3 t.v : Nat),.int .u64 (l2 t.v : Nat),.int .u64 (l1 t.v : Nat),.int .u64 (l0 t.v : Nat),.int .u8 t.kind,.bool t.bad,.string (str t.raw)]
def Tolds (W:World) (pa:Option Addr) (l:List ToldP) : Prop:=
 l=[]∨∃ g o,pa=some ⟨g,o,none⟩∧g<W.heap.size∧∀ (i:Nat) (t:ToldP),l[i]?=some t→t.Ok∧∀ j,j<14→W.cell? ⟨g,o+i*14+j,none⟩=(toldCells t)[j]?
theorem Tolds.later {W W' : World} {pa : Option Addr} {l : List ToldP} (h:Tolds W pa l) (hb:Below W.heap.size W W') : Tolds W' pa l:=by
 rcases h with h | ⟨g,o,e,hg,h⟩
 ·exact Or.inl h
 ·exact Or.inr ⟨g,o,e,Nat.lt_of_lt_of_le hg hb.size,fun i t ht=>⟨(h i t ht).1,fun j hj=>(World.cell?_of_block (hb.block g hg)).trans ((h i t ht).2 j hj)⟩⟩
def idP (i:Nat) (t:ToldP) : Nat:=if t.bad=true then t.id else i+1
def tell1 (i:Nat) (t:ToldP) : ReplyP:=⟨idP i t,t.nonce,t.bal,t.code.take (min t.code.length 60),0⟩
def tell2 (i:Nat) (t:ToldP) : ReplyP:=⟨idP i t,0,0,[],t.v⟩
def tellP (i:Nat) (t:ToldP) : Nm:=if 240<t.kind then t.raw else if t.kind % 2=1 then (tell1 i t).enc 1 else (tell2 i t).enc 2
def scriptF : Nat→List ToldP→List Nm
 | _,[]=>[]
 | i,t :: r=>tellP i t :: scriptF (i+1) r
def scriptP (l:List ToldP) : List Nm:=scriptF 0 (l.take 40)
theorem scriptF_len (i:Nat) (l:List ToldP) : (scriptF i l).length=l.length:=by
 induction l generalizing i with
 | nil=>rfl
 | cons t r ih=>simp [scriptF,ih]
theorem scriptF_app (i:Nat) (l m : List ToldP) : scriptF i (l ++ m)=scriptF i l ++ scriptF (i+l.length) m:=by
 induction l generalizing i with
 | nil=>simp [scriptF]
 | cons t r ih=>
  simp only [List.cons_append,scriptF,ih,List.length_cons]
  rw [show i+1+r.length=i+(r.length+1) by omega]
theorem script_step {l : List ToldP} {k : Nat} {t : ToldP} (h:l[k]?=some t) : scriptF 0 (l.take (k+1))=scriptF 0 (l.take k) ++ [tellP k t]:=by
 have hk : k<l.length:=(List.getElem?_eq_some_iff.1 h).1
 rw [List.take_add_one,h,scriptF_app,List.length_take,Nat.min_eq_left (Nat.le_of_lt hk),Nat.zero_add]
 rfl
theorem id_lt {i : Nat} {t : ToldP} (h:t.Ok) (hi:i<40) : idP i t<M64:=by
 unfold idP
 split
 ·exact h.id
 ·unfold M64; omega
theorem tell1_ok {i : Nat} {t : ToldP} (h:t.Ok) (hi:i<40) : (tell1 i t).Wf∧(tell1 i t).Ok 1:=
 ⟨⟨id_lt h hi,h.nonce,h.bal,by show 0<W256; decide⟩,by show (List.take _ _).length≤_; rw [List.length_take]; omega,Or.inl ⟨rfl,rfl⟩⟩
theorem tell2_ok {i : Nat} {t : ToldP} (h:t.Ok) (hi:i<40) : (tell2 i t).Wf∧(tell2 i t).Ok 2:=
 ⟨⟨id_lt h hi,by show 0<M64; unfold M64; omega,by show 0<W256; decide,h.v⟩,by show ([] : Nm).length≤_; simp,Or.inr ⟨rfl,rfl,rfl,rfl⟩⟩
structure Sc (W:World) (pa:Option Addr) (l:List ToldP) (s:List Nm) (v:Value) (V:World) : Prop where
 told : Tolds W pa l
 below : Below W.heap.size W V
 row : OwnS W.heap.size s v V
theorem Sc.call {W V V' : World} {pa : Option Addr} {l : List ToldP} {s : List Nm} {v : Value} (h:Sc W pa l s v V) (hb:Below V.heap.size V V') : Sc W pa l s v V':=
 ⟨h.told,h.below.trans (hb.mono h.below.size),h.row.keep hb⟩
set_option maxRecDepth 100000 in
set_option maxHeartbeats 8000000 in
theorem script_c (l:List ToldP) (pa:Option Addr) (pc:Nat) (W:World) (hT:Tolds W pa l) (hlm:l.length≤9000000000000000000) :
  Calls Tryz.prog 19 #[.slice pa l.length pc] W fun e W'=>∃ v,e=.returned v∧OwnS W.heap.size (scriptP l) v W'∧Below W.heap.size W W':=by
 have H0 : Sc W pa l (scriptF 0 (l.take 0)) (.slice none 0 0) W:=⟨hT,Below.refl _ _,World.ownsRow_nil _ _ _ _⟩
 have HH:=Lib.hid H0
 have HL:=Lib.hid hlm
 clear hT hlm H0
 generalize hn : l.length=n at *
 have HN:=Lib.hid hn
 clear hn
 go_enter Tryz.func19,Tryz.ntmps19
 go_wp2_with fail
 go_loopw [3,4] (fun v i wr=>∃ k : Nat,i=.int .i64 k∧k≤n∧k≤40∧Sc W pa l (scriptF 0 (l.take k)) v wr) (fun _ i _=>40-(intOf i).toNat)
 case atStart=>exact⟨0,rfl,by omega,by omega,HH.out⟩
 case round=>
  clear HH
  obtain⟨k,rfl,hk,hk40,M⟩:=hrel
  by_cases hlt : k<n
  ·by_cases hlt4 : k<40
   ·obtain⟨t,ht⟩ : ∃ t,l[k]?=some t:=⟨l[k]'(by rw [HN.out]; exact hlt),List.getElem?_eq_getElem _⟩
    rcases M.told.later M.below with hnil | ⟨g,o,rfl,hg,hcell⟩
    ·rw [hnil] at ht; cases ht
    obtain⟨hok,hc⟩:=hcell k t ht
    have hlti : (k:Int)<(n:Int):=by omega
    have hlti4 : (k:Int)<40:=by omega
    have hk0 : (0:Int)≤(k:Int):=by omega
    have hw : IntKind.i64.wrap ((k:Int)+1)=(k:Int)+1:=IntWalk.i64_in _ (by omega)
    obtain⟨k1,hk1⟩ : ∃ k1,k1=k+1:=⟨_,rfl⟩
    have hw2 : IntKind.u64.wrap ((k:Int)+1)=(k1:Int):=by rw [IntKind.wrap_u64]; omega
    obtain⟨va,vc,rfl⟩:=M.row.form
    have HM:=Lib.hid M
    have HOK:=Lib.hid (And.intro hok (And.intro hlt4 (And.intro hk1 (And.intro ht hlt))))
    have HCC:=Lib.hid (fun V (hV:Below wr.heap.size wr V) j hj=>(World.cell?_of_block (a:=⟨g,o+k*14+j,none⟩) (hV.block g hg)).trans (hc j hj))
    have P1:=Lib.hid (fun V=>rputReply_c 1 (tell1_ok hok hlt4).1 V)
    have P2:=Lib.hid (fun V=>rputReply_c 2 (tell2_ok hok hlt4).1 V)
    rw [putReplyV_ok (tell1_ok hok hlt4).2] at P1
    rw [putReplyV_ok (tell2_ok hok hlt4).2] at P2
    have b12 : wr.cell? ⟨g,o+k*14+12,none⟩=some (.bool t.bad):=hc 12 (by omega)
    have b0 : wr.cell? ⟨g,o+k*14,none⟩=some (.int .u64 t.id):=hc 0 (by omega)
    clear M hok hlt4 hk1 ht hlt hcell hc hg hk hk40
    cases hb : t.bad with
    | true=>
     rw [hb] at b12
     have hid : idP k t=t.id:=by unfold idP; rw [if_pos hb]
     have HI:=Lib.hid hid
     clear hid hb
     go_upto_region 8 with fail
     generalize t.id=z at HI ⊢
     have b1 : wr.cell? ⟨g,o+k*14+1,none⟩=some (.int .u64 t.nonce):=HCC.out wr (Below.refl _ _) 1 (by omega)
     have b2 : wr.cell? ⟨g,o+k*14+2,none⟩=some (.int .u64 (l3 t.bal : Nat)):=HCC.out wr (Below.refl _ _) 2 (by omega)
     have b3 : wr.cell? ⟨g,o+k*14+3,none⟩=some (.int .u64 (l2 t.bal : Nat)):=HCC.out wr (Below.refl _ _) 3 (by omega)
     have b4 : wr.cell? ⟨g,o+k*14+4,none⟩=some (.int .u64 (l1 t.bal : Nat)):=HCC.out wr (Below.refl _ _) 4 (by omega)
     have b5 : wr.cell? ⟨g,o+k*14+5,none⟩=some (.int .u64 (l0 t.bal : Nat)):=HCC.out wr (Below.refl _ _) 5 (by omega)
     have b6 : wr.cell? ⟨g,o+k*14+6,none⟩=some (.string (str t.code)):=HCC.out wr (Below.refl _ _) 6 (by omega)
     clear b12
     go_upto_region 9 with fail
     have M1:=(Bl.start wr).alloc (.cells #[.int .u64 t.nonce,.int .u64 (l3 t.bal : Nat),.int .u64 (l2 t.bal : Nat),.int .u64 (l1 t.bal : Nat),.int .u64 (l0 t.bal : Nat),.string (str t.code)] 82 (0,0))
     obtain⟨q,hq⟩ : ∃ q,q=wr.heap.size:=⟨_,rfl⟩
     rw [← hq] at M1 ⊢
     clear hq b1 b2 b3 b4 b5 b6 b0
     generalize World.alloc wr _=V1 at M1 ⊢
     obtain⟨⟨k0,k1',k2,k3,k4,k5⟩,d0,d1,d2,d3,d4,d5⟩:=cells6 (M1.at (q:=q) memS)
     obtain⟨m,hm⟩ : ∃ m,m=min t.code.length 60:=⟨_,rfl⟩
     have hst:=str_take t.code m
     have hml : m≤(str t.code).size:=by rw [str_size,hm]; exact Nat.min_le_left _ _
     have HMM:=Lib.hid hm
     have hsz : (str t.code).size=t.code.length:=str_size _
     have hmin : min (t.code.length : Int) 60=(m:Int):=by omega
     clear hm
     go_upto_region 10 with fail
     have hb1 : V1.heap[q]?=some (.cells #[.int .u64 t.nonce,.int .u64 (l3 t.bal : Nat),.int .u64 (l2 t.bal : Nat),.int .u64 (l1 t.bal : Nat),.int .u64 (l0 t.bal : Nat),.string (str t.code)] 82 (0,0)):=M1.at memS
     have hb2:=heap_setCell_same V1 q 5 _ _ (.string (str (t.code.take m))) hb1
     have M2:=M1.put (chg_set (F:=fun k=>k=q) (F':=fun k=>k=q) (Chg.refl _ V1) (Or.inl rfl) 5 (.string (str (t.code.take m)))) (o':=.cells #[.int .u64 t.nonce,.int .u64 (l3 t.bal : Nat),.int .u64 (l2 t.bal : Nat),.int .u64 (l1 t.bal : Nat),.int .u64 (l0 t.bal : Nat),.string (str (t.code.take m))] 82 (0,0)) (by simpa using hb2) (by simp)
     clear hb1 hb2 M1 k0 k1' k2 k3 k4 k5 d0 d1 d2 d3 d4 d5 hst hml hsz hmin
     generalize World.setCell V1 _ _=V2 at M2 ⊢
     have b7 : V2.cell? ⟨g,o+k*14+7,none⟩=some (.int .u64 (l3 t.v : Nat)):=HCC.out V2 M2.below 7 (by omega)
     have b8 : V2.cell? ⟨g,o+k*14+8,none⟩=some (.int .u64 (l2 t.v : Nat)):=HCC.out V2 M2.below 8 (by omega)
     have b9 : V2.cell? ⟨g,o+k*14+9,none⟩=some (.int .u64 (l1 t.v : Nat)):=HCC.out V2 M2.below 9 (by omega)
     have b10 : V2.cell? ⟨g,o+k*14+10,none⟩=some (.int .u64 (l0 t.v : Nat)):=HCC.out V2 M2.below 10 (by omega)
     have e2 : replyV (tell2 k t)=.agg #[.int .u64 z,.int .u64 0,.int .u64 0,.int .u64 0,.int .u64 0,.int .u64 0,.string ⟨#[]⟩,.int .u64 (l3 t.v : Nat),.int .u64 (l2 t.v : Nat),.int .u64 (l1 t.v : Nat),.int .u64 (l0 t.v : Nat)]:=by
      have h0 : str []=⟨#[]⟩:=rfl
      simp [replyV,tell2,lim_zero,HI.out,h0]
     have e1 : replyV (tell1 k t)=.agg #[.int .u64 z,.int .u64 t.nonce,.int .u64 (l3 t.bal : Nat),.int .u64 (l2 t.bal : Nat),.int .u64 (l1 t.bal : Nat),.int .u64 (l0 t.bal : Nat),.string (str (t.code.take m)),.int .u64 0,.int .u64 0,.int .u64 0,.int .u64 0]:=by
      simp [replyV,tell1,lim_zero,HI.out,HMM.out]
     rw [e1] at P1
     rw [e2] at P2
     clear e1 e2
     go_wp2_with fail
     refine (P2.out _).mono ?_
     rintro e V3 ⟨rfl,hb3⟩
     have M3:=M2.call hb3
     clear M2 hb3 P2 b7 b8 b9 b10
     have b11 : V3.cell? ⟨g,o+k*14+11,none⟩=some (.int .u8 t.kind):=HCC.out V3 M3.below 11 (by omega)
     have hkd : (t.kind : Int) % 2=((t.kind % 2 : Nat) : Int):=by omega
     by_cases hodd : t.kind % 2=1
     ·have hoi : (t.kind : Int) % 2=1:=by omega
      have HODD:=Lib.hid hodd
      clear hkd
      obtain⟨⟨k0,k1',k2,k3,k4,k5⟩,_⟩:=cells6 (M3.at (q:=q) memS)
      have HM3:=Lib.hid M3
      clear M3 hodd
      go_wp2_with fail
      clear b11
      refine (P1.out _).mono ?_
      rintro e V4 ⟨rfl,hb4⟩
      have MX:=HM3.out.call hb4
      clear HM3 hb4 P1 k0 k1' k2 k3 k4 k5
      have b11 : V4.cell? ⟨g,o+k*14+11,none⟩=some (.int .u8 t.kind):=HCC.out V4 MX.below 11 (by omega)
      by_cases hbig : 240<t.kind
      ·have hbi : (240:Int)<(t.kind : Int):=by omega
       have HTP:=Lib.hid (show tellP k t=t.raw from by unfold tellP; rw [if_pos hbig])
       have b13 : V4.cell? ⟨g,o+k*14+13,none⟩=some (.string (str t.raw)):=HCC.out V4 MX.below 13 (by omega)
       have M9:=HM.out.call (MX.below)
       go_wp2_with (at_builtin; refine wpList_append_one rfl _ _ 38 9 rfl Tryz.underlying38 _ 16 infoStr rfl (by omega) W.heap.size (.slice va (scriptF 0 (List.take k l)).length vc) (scriptF 0 (List.take k l)).length ((scriptF 0 (l.take k)).map encS) (by rfl) (own_keep M9.row fun k' hk'=>Below.heap_alloc _ _ _ (M9.row.lt hk').2) V4.heap.size (.string (str t.raw)) rfl (by rfl) (heap_alloc_new _ _) (by have:=M9.below.size; simp; omega) (by have h40:=HOK.out.2.1; rw [scriptF_len,List.length_take]; omega) ?_; intro v' W' q1 q2 q3; have q1' : OwnS W.heap.size (scriptF 0 (l.take k) ++ [t.raw]) v' W':=(by unfold OwnS; rw [List.map_append,List.length_append]; exact q1); have hbel : Below W.heap.size V4 W':=(((Below.refl W.heap.size V4).alloc M9.below.size _).trans (below_grown q2 (fun k' hk'=>(M9.row.lt (k:=k') hk').1) (by have:=M9.below.size; simp; omega))); have MZ : Sc W (some ⟨g,o,none⟩) l (scriptF 0 (l.take k) ++ [t.raw]) v' W':=⟨M9.told,M9.below.trans hbel,q1'⟩; obtain⟨a',c9,hf⟩:=q1'.form; have HZ9:=Lib.hid MZ; clear q1 q1' q2 q3 hbel MZ; generalize hn9 : (scriptF 0 (l.take k) ++ [t.raw]).length=n9 at hf; clear hn9; subst hf)
       obtain⟨h1,h2,h3,h4,h5⟩:=HOK.out
       exact⟨⟨k+1,by go_num,by omega,by omega,by rw [script_step h4,HTP.out]; exact HZ9.out⟩,by simp [intOf]; omega⟩
      ·have hbi : ¬ (240:Int)<(t.kind : Int):=by omega
       have HTP:=Lib.hid (show tellP k t=((tell1 k t).enc 1) from by unfold tellP; rw [if_neg hbig,if_pos HODD.out])
       have M9:=HM.out.call (MX.below)
       go_wp2_with (at_builtin; refine wpList_append_one rfl _ _ 38 9 rfl Tryz.underlying38 _ 16 infoStr rfl (by omega) W.heap.size (.slice va (scriptF 0 (List.take k l)).length vc) (scriptF 0 (List.take k l)).length ((scriptF 0 (l.take k)).map encS) (by rfl) (own_keep M9.row fun k' hk'=>Below.heap_alloc _ _ _ (M9.row.lt hk').2) V4.heap.size (.string (str ((tell1 k t).enc 1))) rfl (by rfl) (heap_alloc_new _ _) (by have:=M9.below.size; simp; omega) (by have h40:=HOK.out.2.1; rw [scriptF_len,List.length_take]; omega) ?_; intro v' W' q1 q2 q3; have q1' : OwnS W.heap.size (scriptF 0 (l.take k) ++ [((tell1 k t).enc 1)]) v' W':=(by unfold OwnS; rw [List.map_append,List.length_append]; exact q1); have hbel : Below W.heap.size V4 W':=(((Below.refl W.heap.size V4).alloc M9.below.size _).trans (below_grown q2 (fun k' hk'=>(M9.row.lt (k:=k') hk').1) (by have:=M9.below.size; simp; omega))); have MZ : Sc W (some ⟨g,o,none⟩) l (scriptF 0 (l.take k) ++ [((tell1 k t).enc 1)]) v' W':=⟨M9.told,M9.below.trans hbel,q1'⟩; obtain⟨a',c9,hf⟩:=q1'.form; have HZ9:=Lib.hid MZ; clear q1 q1' q2 q3 hbel MZ; generalize hn9 : (scriptF 0 (l.take k) ++ [((tell1 k t).enc 1)]).length=n9 at hf; clear hn9; subst hf)
       obtain⟨h1,h2,h3,h4,h5⟩:=HOK.out
       exact⟨⟨k+1,by go_num,by omega,by omega,by rw [script_step h4,HTP.out]; exact HZ9.out⟩,by simp [intOf]; omega⟩
     ·have hoi : ¬ (t.kind : Int) % 2=1:=by omega
      have HODD:=Lib.hid hodd
      clear hkd hodd
      have MX:=M3
      clear M3
      by_cases hbig : 240<t.kind
      ·have hbi : (240:Int)<(t.kind : Int):=by omega
       have HTP:=Lib.hid (show tellP k t=t.raw from by unfold tellP; rw [if_pos hbig])
       have b13 : V3.cell? ⟨g,o+k*14+13,none⟩=some (.string (str t.raw)):=HCC.out V3 MX.below 13 (by omega)
       have M9:=HM.out.call (MX.below)
       go_wp2_with (at_builtin; refine wpList_append_one rfl _ _ 38 9 rfl Tryz.underlying38 _ 16 infoStr rfl (by omega) W.heap.size (.slice va (scriptF 0 (List.take k l)).length vc) (scriptF 0 (List.take k l)).length ((scriptF 0 (l.take k)).map encS) (by rfl) (own_keep M9.row fun k' hk'=>Below.heap_alloc _ _ _ (M9.row.lt hk').2) V3.heap.size (.string (str t.raw)) rfl (by rfl) (heap_alloc_new _ _) (by have:=M9.below.size; simp; omega) (by have h40:=HOK.out.2.1; rw [scriptF_len,List.length_take]; omega) ?_; intro v' W' q1 q2 q3; have q1' : OwnS W.heap.size (scriptF 0 (l.take k) ++ [t.raw]) v' W':=(by unfold OwnS; rw [List.map_append,List.length_append]; exact q1); have hbel : Below W.heap.size V3 W':=(((Below.refl W.heap.size V3).alloc M9.below.size _).trans (below_grown q2 (fun k' hk'=>(M9.row.lt (k:=k') hk').1) (by have:=M9.below.size; simp; omega))); have MZ : Sc W (some ⟨g,o,none⟩) l (scriptF 0 (l.take k) ++ [t.raw]) v' W':=⟨M9.told,M9.below.trans hbel,q1'⟩; obtain⟨a',c9,hf⟩:=q1'.form; have HZ9:=Lib.hid MZ; clear q1 q1' q2 q3 hbel MZ; generalize hn9 : (scriptF 0 (l.take k) ++ [t.raw]).length=n9 at hf; clear hn9; subst hf)
       obtain⟨h1,h2,h3,h4,h5⟩:=HOK.out
       exact⟨⟨k+1,by go_num,by omega,by omega,by rw [script_step h4,HTP.out]; exact HZ9.out⟩,by simp [intOf]; omega⟩
      ·have hbi : ¬ (240:Int)<(t.kind : Int):=by omega
       have HTP:=Lib.hid (show tellP k t=((tell2 k t).enc 2) from by unfold tellP; rw [if_neg hbig,if_neg HODD.out])
       have M9:=HM.out.call (MX.below)
       go_wp2_with (at_builtin; refine wpList_append_one rfl _ _ 38 9 rfl Tryz.underlying38 _ 16 infoStr rfl (by omega) W.heap.size (.slice va (scriptF 0 (List.take k l)).length vc) (scriptF 0 (List.take k l)).length ((scriptF 0 (l.take k)).map encS) (by rfl) (own_keep M9.row fun k' hk'=>Below.heap_alloc _ _ _ (M9.row.lt hk').2) V3.heap.size (.string (str ((tell2 k t).enc 2))) rfl (by rfl) (heap_alloc_new _ _) (by have:=M9.below.size; simp; omega) (by have h40:=HOK.out.2.1; rw [scriptF_len,List.length_take]; omega) ?_; intro v' W' q1 q2 q3; have q1' : OwnS W.heap.size (scriptF 0 (l.take k) ++ [((tell2 k t).enc 2)]) v' W':=(by unfold OwnS; rw [List.map_append,List.length_append]; exact q1); have hbel : Below W.heap.size V3 W':=(((Below.refl W.heap.size V3).alloc M9.below.size _).trans (below_grown q2 (fun k' hk'=>(M9.row.lt (k:=k') hk').1) (by have:=M9.below.size; simp; omega))); have MZ : Sc W (some ⟨g,o,none⟩) l (scriptF 0 (l.take k) ++ [((tell2 k t).enc 2)]) v' W':=⟨M9.told,M9.below.trans hbel,q1'⟩; obtain⟨a',c9,hf⟩:=q1'.form; have HZ9:=Lib.hid MZ; clear q1 q1' q2 q3 hbel MZ; generalize hn9 : (scriptF 0 (l.take k) ++ [((tell2 k t).enc 2)]).length=n9 at hf; clear hn9; subst hf)
       obtain⟨h1,h2,h3,h4,h5⟩:=HOK.out
       exact⟨⟨k+1,by go_num,by omega,by omega,by rw [script_step h4,HTP.out]; exact HZ9.out⟩,by simp [intOf]; omega⟩
    | false=>
     rw [hb] at b12
     have hid : idP k t=k1:=by unfold idP; rw [if_neg (by rw [hb]; decide)]; exact HOK.out.2.2.1.symm
     have HI:=Lib.hid hid
     clear hid hb
     go_upto_region 8 with fail
     generalize k1=z at HI HOK hw2 ⊢
     have b1 : wr.cell? ⟨g,o+k*14+1,none⟩=some (.int .u64 t.nonce):=HCC.out wr (Below.refl _ _) 1 (by omega)
     have b2 : wr.cell? ⟨g,o+k*14+2,none⟩=some (.int .u64 (l3 t.bal : Nat)):=HCC.out wr (Below.refl _ _) 2 (by omega)
     have b3 : wr.cell? ⟨g,o+k*14+3,none⟩=some (.int .u64 (l2 t.bal : Nat)):=HCC.out wr (Below.refl _ _) 3 (by omega)
     have b4 : wr.cell? ⟨g,o+k*14+4,none⟩=some (.int .u64 (l1 t.bal : Nat)):=HCC.out wr (Below.refl _ _) 4 (by omega)
     have b5 : wr.cell? ⟨g,o+k*14+5,none⟩=some (.int .u64 (l0 t.bal : Nat)):=HCC.out wr (Below.refl _ _) 5 (by omega)
     have b6 : wr.cell? ⟨g,o+k*14+6,none⟩=some (.string (str t.code)):=HCC.out wr (Below.refl _ _) 6 (by omega)
     clear b12
     go_upto_region 9 with fail
     have M1:=(Bl.start wr).alloc (.cells #[.int .u64 t.nonce,.int .u64 (l3 t.bal : Nat),.int .u64 (l2 t.bal : Nat),.int .u64 (l1 t.bal : Nat),.int .u64 (l0 t.bal : Nat),.string (str t.code)] 82 (0,0))
     obtain⟨q,hq⟩ : ∃ q,q=wr.heap.size:=⟨_,rfl⟩
     rw [← hq] at M1 ⊢
     clear hq b1 b2 b3 b4 b5 b6 b0
     generalize World.alloc wr _=V1 at M1 ⊢
     obtain⟨⟨k0,k1',k2,k3,k4,k5⟩,d0,d1,d2,d3,d4,d5⟩:=cells6 (M1.at (q:=q) memS)
     obtain⟨m,hm⟩ : ∃ m,m=min t.code.length 60:=⟨_,rfl⟩
     have hst:=str_take t.code m
     have hml : m≤(str t.code).size:=by rw [str_size,hm]; exact Nat.min_le_left _ _
     have HMM:=Lib.hid hm
     have hsz : (str t.code).size=t.code.length:=str_size _
     have hmin : min (t.code.length : Int) 60=(m:Int):=by omega
     clear hm
     go_upto_region 10 with fail
     have hb1 : V1.heap[q]?=some (.cells #[.int .u64 t.nonce,.int .u64 (l3 t.bal : Nat),.int .u64 (l2 t.bal : Nat),.int .u64 (l1 t.bal : Nat),.int .u64 (l0 t.bal : Nat),.string (str t.code)] 82 (0,0)):=M1.at memS
     have hb2:=heap_setCell_same V1 q 5 _ _ (.string (str (t.code.take m))) hb1
     have M2:=M1.put (chg_set (F:=fun k=>k=q) (F':=fun k=>k=q) (Chg.refl _ V1) (Or.inl rfl) 5 (.string (str (t.code.take m)))) (o':=.cells #[.int .u64 t.nonce,.int .u64 (l3 t.bal : Nat),.int .u64 (l2 t.bal : Nat),.int .u64 (l1 t.bal : Nat),.int .u64 (l0 t.bal : Nat),.string (str (t.code.take m))] 82 (0,0)) (by simpa using hb2) (by simp)
     clear hb1 hb2 M1 k0 k1' k2 k3 k4 k5 d0 d1 d2 d3 d4 d5 hst hml hsz hmin
     generalize World.setCell V1 _ _=V2 at M2 ⊢
     have b7 : V2.cell? ⟨g,o+k*14+7,none⟩=some (.int .u64 (l3 t.v : Nat)):=HCC.out V2 M2.below 7 (by omega)
     have b8 : V2.cell? ⟨g,o+k*14+8,none⟩=some (.int .u64 (l2 t.v : Nat)):=HCC.out V2 M2.below 8 (by omega)
     have b9 : V2.cell? ⟨g,o+k*14+9,none⟩=some (.int .u64 (l1 t.v : Nat)):=HCC.out V2 M2.below 9 (by omega)
     have b10 : V2.cell? ⟨g,o+k*14+10,none⟩=some (.int .u64 (l0 t.v : Nat)):=HCC.out V2 M2.below 10 (by omega)
     have e2 : replyV (tell2 k t)=.agg #[.int .u64 z,.int .u64 0,.int .u64 0,.int .u64 0,.int .u64 0,.int .u64 0,.string ⟨#[]⟩,.int .u64 (l3 t.v : Nat),.int .u64 (l2 t.v : Nat),.int .u64 (l1 t.v : Nat),.int .u64 (l0 t.v : Nat)]:=by
      have h0 : str []=⟨#[]⟩:=rfl
      simp [replyV,tell2,lim_zero,HI.out,h0]
     have e1 : replyV (tell1 k t)=.agg #[.int .u64 z,.int .u64 t.nonce,.int .u64 (l3 t.bal : Nat),.int .u64 (l2 t.bal : Nat),.int .u64 (l1 t.bal : Nat),.int .u64 (l0 t.bal : Nat),.string (str (t.code.take m)),.int .u64 0,.int .u64 0,.int .u64 0,.int .u64 0]:=by
      simp [replyV,tell1,lim_zero,HI.out,HMM.out]
     rw [e1] at P1
     rw [e2] at P2
     clear e1 e2
     go_wp2_with fail
     refine (P2.out _).mono ?_
     rintro e V3 ⟨rfl,hb3⟩
     have M3:=M2.call hb3
     clear M2 hb3 P2 b7 b8 b9 b10
     have b11 : V3.cell? ⟨g,o+k*14+11,none⟩=some (.int .u8 t.kind):=HCC.out V3 M3.below 11 (by omega)
     have hkd : (t.kind : Int) % 2=((t.kind % 2 : Nat) : Int):=by omega
     by_cases hodd : t.kind % 2=1
     ·have hoi : (t.kind : Int) % 2=1:=by omega
      have HODD:=Lib.hid hodd
      clear hkd
      obtain⟨⟨k0,k1',k2,k3,k4,k5⟩,_⟩:=cells6 (M3.at (q:=q) memS)
      have HM3:=Lib.hid M3
      clear M3 hodd
      go_wp2_with fail
      clear b11
      refine (P1.out _).mono ?_
      rintro e V4 ⟨rfl,hb4⟩
      have MX:=HM3.out.call hb4
      clear HM3 hb4 P1 k0 k1' k2 k3 k4 k5
      have b11 : V4.cell? ⟨g,o+k*14+11,none⟩=some (.int .u8 t.kind):=HCC.out V4 MX.below 11 (by omega)
      by_cases hbig : 240<t.kind
      ·have hbi : (240:Int)<(t.kind : Int):=by omega
       have HTP:=Lib.hid (show tellP k t=t.raw from by unfold tellP; rw [if_pos hbig])
       have b13 : V4.cell? ⟨g,o+k*14+13,none⟩=some (.string (str t.raw)):=HCC.out V4 MX.below 13 (by omega)
       have M9:=HM.out.call (MX.below)
       go_wp2_with (at_builtin; refine wpList_append_one rfl _ _ 38 9 rfl Tryz.underlying38 _ 16 infoStr rfl (by omega) W.heap.size (.slice va (scriptF 0 (List.take k l)).length vc) (scriptF 0 (List.take k l)).length ((scriptF 0 (l.take k)).map encS) (by rfl) (own_keep M9.row fun k' hk'=>Below.heap_alloc _ _ _ (M9.row.lt hk').2) V4.heap.size (.string (str t.raw)) rfl (by rfl) (heap_alloc_new _ _) (by have:=M9.below.size; simp; omega) (by have h40:=HOK.out.2.1; rw [scriptF_len,List.length_take]; omega) ?_; intro v' W' q1 q2 q3; have q1' : OwnS W.heap.size (scriptF 0 (l.take k) ++ [t.raw]) v' W':=(by unfold OwnS; rw [List.map_append,List.length_append]; exact q1); have hbel : Below W.heap.size V4 W':=(((Below.refl W.heap.size V4).alloc M9.below.size _).trans (below_grown q2 (fun k' hk'=>(M9.row.lt (k:=k') hk').1) (by have:=M9.below.size; simp; omega))); have MZ : Sc W (some ⟨g,o,none⟩) l (scriptF 0 (l.take k) ++ [t.raw]) v' W':=⟨M9.told,M9.below.trans hbel,q1'⟩; obtain⟨a',c9,hf⟩:=q1'.form; have HZ9:=Lib.hid MZ; clear q1 q1' q2 q3 hbel MZ; generalize hn9 : (scriptF 0 (l.take k) ++ [t.raw]).length=n9 at hf; clear hn9; subst hf)
       obtain⟨h1,h2,h3,h4,h5⟩:=HOK.out
       exact⟨⟨k+1,by go_num,by omega,by omega,by rw [script_step h4,HTP.out]; exact HZ9.out⟩,by simp [intOf]; omega⟩
      ·have hbi : ¬ (240:Int)<(t.kind : Int):=by omega
       have HTP:=Lib.hid (show tellP k t=((tell1 k t).enc 1) from by unfold tellP; rw [if_neg hbig,if_pos HODD.out])
       have M9:=HM.out.call (MX.below)
       go_wp2_with (at_builtin; refine wpList_append_one rfl _ _ 38 9 rfl Tryz.underlying38 _ 16 infoStr rfl (by omega) W.heap.size (.slice va (scriptF 0 (List.take k l)).length vc) (scriptF 0 (List.take k l)).length ((scriptF 0 (l.take k)).map encS) (by rfl) (own_keep M9.row fun k' hk'=>Below.heap_alloc _ _ _ (M9.row.lt hk').2) V4.heap.size (.string (str ((tell1 k t).enc 1))) rfl (by rfl) (heap_alloc_new _ _) (by have:=M9.below.size; simp; omega) (by have h40:=HOK.out.2.1; rw [scriptF_len,List.length_take]; omega) ?_; intro v' W' q1 q2 q3; have q1' : OwnS W.heap.size (scriptF 0 (l.take k) ++ [((tell1 k t).enc 1)]) v' W':=(by unfold OwnS; rw [List.map_append,List.length_append]; exact q1); have hbel : Below W.heap.size V4 W':=(((Below.refl W.heap.size V4).alloc M9.below.size _).trans (below_grown q2 (fun k' hk'=>(M9.row.lt (k:=k') hk').1) (by have:=M9.below.size; simp; omega))); have MZ : Sc W (some ⟨g,o,none⟩) l (scriptF 0 (l.take k) ++ [((tell1 k t).enc 1)]) v' W':=⟨M9.told,M9.below.trans hbel,q1'⟩; obtain⟨a',c9,hf⟩:=q1'.form; have HZ9:=Lib.hid MZ; clear q1 q1' q2 q3 hbel MZ; generalize hn9 : (scriptF 0 (l.take k) ++ [((tell1 k t).enc 1)]).length=n9 at hf; clear hn9; subst hf)
       obtain⟨h1,h2,h3,h4,h5⟩:=HOK.out
       exact⟨⟨k+1,by go_num,by omega,by omega,by rw [script_step h4,HTP.out]; exact HZ9.out⟩,by simp [intOf]; omega⟩
     ·have hoi : ¬ (t.kind : Int) % 2=1:=by omega
      have HODD:=Lib.hid hodd
      clear hkd hodd
      have MX:=M3
      clear M3
      by_cases hbig : 240<t.kind
      ·have hbi : (240:Int)<(t.kind : Int):=by omega
       have HTP:=Lib.hid (show tellP k t=t.raw from by unfold tellP; rw [if_pos hbig])
       have b13 : V3.cell? ⟨g,o+k*14+13,none⟩=some (.string (str t.raw)):=HCC.out V3 MX.below 13 (by omega)
       have M9:=HM.out.call (MX.below)
       go_wp2_with (at_builtin; refine wpList_append_one rfl _ _ 38 9 rfl Tryz.underlying38 _ 16 infoStr rfl (by omega) W.heap.size (.slice va (scriptF 0 (List.take k l)).length vc) (scriptF 0 (List.take k l)).length ((scriptF 0 (l.take k)).map encS) (by rfl) (own_keep M9.row fun k' hk'=>Below.heap_alloc _ _ _ (M9.row.lt hk').2) V3.heap.size (.string (str t.raw)) rfl (by rfl) (heap_alloc_new _ _) (by have:=M9.below.size; simp; omega) (by have h40:=HOK.out.2.1; rw [scriptF_len,List.length_take]; omega) ?_; intro v' W' q1 q2 q3; have q1' : OwnS W.heap.size (scriptF 0 (l.take k) ++ [t.raw]) v' W':=(by unfold OwnS; rw [List.map_append,List.length_append]; exact q1); have hbel : Below W.heap.size V3 W':=(((Below.refl W.heap.size V3).alloc M9.below.size _).trans (below_grown q2 (fun k' hk'=>(M9.row.lt (k:=k') hk').1) (by have:=M9.below.size; simp; omega))); have MZ : Sc W (some ⟨g,o,none⟩) l (scriptF 0 (l.take k) ++ [t.raw]) v' W':=⟨M9.told,M9.below.trans hbel,q1'⟩; obtain⟨a',c9,hf⟩:=q1'.form; have HZ9:=Lib.hid MZ; clear q1 q1' q2 q3 hbel MZ; generalize hn9 : (scriptF 0 (l.take k) ++ [t.raw]).length=n9 at hf; clear hn9; subst hf)
       obtain⟨h1,h2,h3,h4,h5⟩:=HOK.out
       exact⟨⟨k+1,by go_num,by omega,by omega,by rw [script_step h4,HTP.out]; exact HZ9.out⟩,by simp [intOf]; omega⟩
      ·have hbi : ¬ (240:Int)<(t.kind : Int):=by omega
       have HTP:=Lib.hid (show tellP k t=((tell2 k t).enc 2) from by unfold tellP; rw [if_neg hbig,if_neg HODD.out])
       have M9:=HM.out.call (MX.below)
       go_wp2_with (at_builtin; refine wpList_append_one rfl _ _ 38 9 rfl Tryz.underlying38 _ 16 infoStr rfl (by omega) W.heap.size (.slice va (scriptF 0 (List.take k l)).length vc) (scriptF 0 (List.take k l)).length ((scriptF 0 (l.take k)).map encS) (by rfl) (own_keep M9.row fun k' hk'=>Below.heap_alloc _ _ _ (M9.row.lt hk').2) V3.heap.size (.string (str ((tell2 k t).enc 2))) rfl (by rfl) (heap_alloc_new _ _) (by have:=M9.below.size; simp; omega) (by have h40:=HOK.out.2.1; rw [scriptF_len,List.length_take]; omega) ?_; intro v' W' q1 q2 q3; have q1' : OwnS W.heap.size (scriptF 0 (l.take k) ++ [((tell2 k t).enc 2)]) v' W':=(by unfold OwnS; rw [List.map_append,List.length_append]; exact q1); have hbel : Below W.heap.size V3 W':=(((Below.refl W.heap.size V3).alloc M9.below.size _).trans (below_grown q2 (fun k' hk'=>(M9.row.lt (k:=k') hk').1) (by have:=M9.below.size; simp; omega))); have MZ : Sc W (some ⟨g,o,none⟩) l (scriptF 0 (l.take k) ++ [((tell2 k t).enc 2)]) v' W':=⟨M9.told,M9.below.trans hbel,q1'⟩; obtain⟨a',c9,hf⟩:=q1'.form; have HZ9:=Lib.hid MZ; clear q1 q1' q2 q3 hbel MZ; generalize hn9 : (scriptF 0 (l.take k) ++ [((tell2 k t).enc 2)]).length=n9 at hf; clear hn9; subst hf)
       obtain⟨h1,h2,h3,h4,h5⟩:=HOK.out
       exact⟨⟨k+1,by go_num,by omega,by omega,by rw [script_step h4,HTP.out]; exact HZ9.out⟩,by simp [intOf]; omega⟩
   ·obtain rfl : k=40:=by omega
    have hlti : ((40:Nat) : Int)<(n:Int):=by omega
    have hfin : scriptP l=scriptF 0 (l.take 40):=rfl
    have HM:=Lib.hid M
    clear M hk hk40 hlt hlt4
    obtain⟨va,vc,rfl⟩:=HM.out.row.form
    go_wp2_with fail
    go_ret
    exact⟨_,rfl,HM.out.row,HM.out.below⟩
  ·obtain rfl : k=n:=by omega
   have hlti : ¬ ((k:Nat) : Int)<(k:Int):=by omega
   have hfin : scriptP l=scriptF 0 (l.take k):=by
    unfold scriptP
    rw [List.take_of_length_le (by rw [HN.out]; exact hk40),List.take_of_length_le (by rw [HN.out]; exact Nat.le_refl _)]
   have HM:=Lib.hid M
   have HF:=Lib.hid hfin
   clear M hk hk40 hlt hfin
   obtain⟨va,vc,rfl⟩:=HM.out.row.form
   go_wp2_with fail
   go_ret
   rw [HF.out]
   exact⟨_,rfl,HM.out.row,HM.out.below⟩
end Go.Proofs.YtekoaheiapddiaaGreat.Dz
end
section
namespace Go.Proofs.YtekoaheiapddiaaGreat.Dz
open Go.RowKit
theorem reply_len {kind : Int} {r : ReplyP} (h:r.Wf) (ho:r.Ok kind) : (r.enc kind).length≤r.code.length+140:=by
 have h1:=encT_le3 (Go.Proofs.YtekoaheiapddiaaGreat.num r.id) (by have:=num8 h.id; omega)
 have h2:=encT_le3 (Go.Proofs.YtekoaheiapddiaaGreat.num r.nonce) (by have:=num8 h.nonce; omega)
 have h3:=encT_le3 (wordL r.bal) (by rw [wordL_len]; omega)
 have h4:=encT_le3 r.code (by have:=ho.1; omega)
 have h5:=encT_le3 (wordL r.value) (by rw [wordL_len]; omega)
 have h6:=num8 h.id
 have h7:=num8 h.nonce
 have h8:=wordL_len r.bal
 have h9:=wordL_len r.value
 have ha:=ho.1
 have hf : (r.fo kind).enc.length≤r.code.length+120:=by
  unfold ReplyP.fo
  split <;> simp only [Fo.enc,List.length_append,List.length_nil] <;> omega
 have h2:=It.list_len (r.fo kind) (by omega)
 unfold ReplyP.enc ReplyP.body ReplyP.it
 rw [List.length_append,sum4_len]
 omega
theorem rec_len {a : AskP} {r : ReplyP} (ha:a.Key) (hw:r.Wf) (ho:r.Ok a.kind) : (recE a r).length≤r.code.length+260:=by
 have h1:=AskP.enc_len ha.1 ha.2.1
 have h2:=reply_len hw ho
 have h0:=ho.1
 have h3:=encT_le3 a.enc (by omega)
 have h5:=encT_le3 (r.enc a.kind) (by omega)
 have hf : (recF a r).enc.length≤r.code.length+250:=by
  simp only [recF,Fo.enc,List.length_append,List.length_nil]
  omega
 have h6:=It.list_len (recF a r) (by omega)
 unfold recE
 omega
theorem tries_nil (a:AskP) (n:Nat) : ∀ c : Cl,c.script=[]→∃ s,c.tries a n=(none,⟨c.known,[],c.asked ++ s⟩)∧s.length=n:=by
 induction n with
 | zero=>exact fun c h=>⟨[],by obtain⟨k,s,q⟩:=c; simp only at h; subst h; simp [Cl.tries],rfl⟩
 | succ n ih=>
  intro c h
  obtain⟨s,h1,h2⟩:=ih ⟨c.known,[],c.asked ++ [({ a with id:=c.asked.length+1 } : AskP).enc]⟩ rfl
  refine⟨({ a with id:=c.asked.length+1 } : AskP).enc :: s,?_,by simp [h2]⟩
  simp only [Cl.tries,h,List.headD_nil,getR_nil,List.tail_nil]
  rw [h1]
  simp
theorem tries_right {a : AskP} {c : Cl} {r : ReplyP} {s : List Nm} {n : Nat} (hs:c.script=r.enc a.kind :: s) (hw:r.Wf) (ho:r.Ok a.kind) (hi:r.id=c.asked.length+1) :
  c.tries a (n+1)=(some { r with id:=0 },⟨c.known,s,c.asked ++ [({ a with id:=c.asked.length+1 } : AskP).enc]⟩):=by
 simp only [Cl.tries,hs,List.headD_cons,getR_enc hw ho,List.tail_cons]
 rw [if_pos hi]
def nmC : Nm:=[99]
def addrE1 : List UInt8:=[48,49,50,51,52,53,54,55,56,57,48,49,50,51,52,53,54,55,56,57]
def addrE2 : List UInt8:=[57,57,57,57,57,57,57,57,57,57,57,57,57,57,57,57,57,57,57,57]
def tE : ToldP:=⟨0,5,0,[],0,1,false,[]⟩
def rE (i:Nat) : ReplyP:=⟨i,5,0,[],0⟩
theorem tE_ok : tE.Ok:=⟨by show 0<M64; unfold M64; omega,by show 5<M64; unfold M64; omega,by show 0<W256; decide,by show ([] : Nm).length≤_; simp,by show 0<W256; decide,by show 1<256; omega⟩
theorem rE_wf (i:Nat) (hi:i<M64) : (rE i).Wf:=⟨hi,by show 5<M64; unfold M64; omega,by show 0<W256; decide,by show 0<W256; decide⟩
theorem rE_ok (i:Nat) : (rE i).Ok 1:=⟨by show ([] : Nm).length≤_; simp,Or.inl ⟨rfl,rfl⟩⟩
theorem script_E : scriptP [tE]=[(rE 1).enc 1]:=rfl
theorem key_of {addr : List UInt8} (h:addr.length=20) : (⟨0,addr,0,1⟩ : AskP).Key:=⟨⟨by show 0<M64; unfold M64; omega,by show 0<W256; decide,by show -9223372036854775808≤(1:Int)∧(1:Int)≤9223372036854775807; omega⟩,⟨h,Or.inr ⟨rfl,rfl⟩⟩,rfl⟩
theorem key_slot {addr : List UInt8} (h:addr.length=20) {n : Nat} (hn:n<W256) : (⟨0,addr,n,2⟩ : AskP).Key:=⟨⟨by show 0<M64; unfold M64; omega,hn,by show -9223372036854775808≤(2:Int)∧(2:Int)≤9223372036854775807; omega⟩,⟨h,Or.inl rfl⟩,rfl⟩
theorem learn_fits {name : Nm} {p : Pd} {c c1 : Cl} {a : AskP} {r : ReplyP} (hl:Hl p) (hp:p.Ok) (ht:c.tries a 3=(some r,c1)) (ha:a.Key) (hw:r.Wf) (ho:r.Ok a.kind) (hu:usedE p.L+r.code.length+268≤p.room) :
  learnP name p c a=((r,0),(p.add name (recE a r)).2,{ c1 with known:=putK c1.known a r }):=by
 have h1:=rec_len ha hw ho
 have h2:=ho.1
 obtain⟨q,h3,_⟩:=hl.add (name:=name) (xs:=recE a r) hp (by omega) (by omega)
 exact learnP_ok ht (by rw [h3])
theorem ok_new {room : Nat} (h:room≤1048576) : (Pd.new room).Ok:=⟨trivial,Nat.zero_le _,h,⟨by show _≤(-1 : Int); omega,by show (-1 : Int)≤_; omega⟩,fun e he=>by cases he⟩
theorem ex_one : ∃ p1,askP nmC (Pd.new 10000) ⟨[],[(rE 1).enc 1],[]⟩ ⟨0,addrE1,0,1⟩=((rE 0,0),p1,⟨[(⟨0,addrE1,0,1⟩,rE 0)],[],[(⟨1,addrE1,0,1⟩ : AskP).enc]⟩):=by
 have ht:=tries_right (a:=⟨0,addrE1,0,1⟩) (c:=⟨[],[(rE 1).enc 1],[]⟩) (r:=rE 1) (s:=[]) (n:=2) rfl (rE_wf 1 (by unfold M64; omega)) (rE_ok 1) rfl
 refine⟨((Pd.new 10000).add nmC (recE ⟨0,addrE1,0,1⟩ (rE 0))).2,?_⟩
 rw [askP_new rfl rfl,learn_fits (Hl.new _) (ok_new (by omega)) ht (key_of rfl) (rE_wf 0 (by unfold M64; omega)) (rE_ok 0) (by show 0+0+268≤10000; omega)]
 rfl
theorem ex_two (p1:Pd) : askP nmC p1 ⟨[(⟨0,addrE1,0,1⟩,rE 0)],[],[(⟨1,addrE1,0,1⟩ : AskP).enc]⟩ ⟨0,addrE1,0,1⟩=((rE 0,0),p1,⟨[(⟨0,addrE1,0,1⟩,rE 0)],[],[(⟨1,addrE1,0,1⟩ : AskP).enc]⟩):=
 askP_known rfl (by simp [getK])
theorem ex_three (p1:Pd) : ∃ s,askP nmC p1 ⟨[(⟨0,addrE1,0,1⟩,rE 0)],[],[(⟨1,addrE1,0,1⟩ : AskP).enc]⟩ ⟨0,addrE2,0,1⟩=((ReplyP.zero,4),p1,⟨[(⟨0,addrE1,0,1⟩,rE 0)],[],s⟩)∧s.length=4:=by
 obtain⟨s,h1,h2⟩:=tries_nil ⟨0,addrE2,0,1⟩ 3 ⟨[(⟨0,addrE1,0,1⟩,rE 0)],[],[(⟨1,addrE1,0,1⟩ : AskP).enc]⟩ rfl
 refine⟨[(⟨1,addrE1,0,1⟩ : AskP).enc] ++ s,?_,?_⟩
 ·rw [askP_new rfl (by simp [getK,addrE1,addrE2]),learnP_none h1]
 ·simp [h2]
theorem Am.new {W W1 W2 : World} {p : Pd} {d : Nat} {F : Nat→Prop} {name : Nm} {l : List Nm} (h1:On p d 0 F W1) (h2:Chg (fun _=>False) F W W1) (h3:CAt ⟨knownOf l,[],[]⟩ name d (W1.heap.size+1) W1.heap.size (.slice none 0 0) (.slice none 0 0) W2) (h4:Below W1.heap.size W1 W2) :
  Am p ⟨knownOf l,[],[]⟩ name d 0 F (W1.heap.size+1) W1.heap.size (.slice none 0 0) (.slice none 0 0) W (fun _=>False) [] W2:=by
 refine⟨⟨h1.below h4,h3,fun k hk hf=>?_⟩,⟨h4.os.trans h2.os,h4.tape.trans h2.tape,h4.output.trans h2.output,Nat.le_trans h2.size h4.size,fun k hk hn=>(h4.block k (Nat.lt_of_lt_of_le hk h2.size)).trans (h2.block k hk hn),fun k hk=>?_⟩,by simp⟩
 ·have:=h1.lt hk
  rcases hf with rfl | rfl | hf | hf
  ·omega
  ·omega
  ·cases hf
  ·cases hf
 ·rcases hk with hk | rfl | rfl | hk | hk
  ·exact h2.new k hk
  ·have:=h2.size; exact Or.inr (by omega)
  ·exact Or.inr h2.size
  ·cases hk
  ·cases hk
theorem Am.bel {p : Pd} {c : Cl} {name : Nm} {d N : Nat} {F : Nat→Prop} {b m : Nat} {sv av : Value} {W V : World} {L : List (Nat×Obj)} (h:Am p c name d N F b m sv av W (fun _=>False) L V) : Below W.heap.size W V:=
 ⟨h.chg.os,h.chg.tape,h.chg.output,h.chg.size,fun k hk=>h.chg.block k hk (fun h=>h)⟩
theorem src_own {B : Nat} {l : List Nm} {a : Option Addr} {c : Nat} {W : World} (h:OwnS B l (.slice a l.length c) W) : Src (l.map encS) a W:=by
 rcases h.2 with ⟨h1,h2⟩ | ⟨g,cap,cur,h1,_⟩
 ·exact Or.inl (by rw [List.eq_nil_of_length_eq_zero h2]; rfl)
 ·cases h1
  refine Or.inr ⟨_,rfl,fun j u hj=>?_⟩
  have e : (⟨g,0,none⟩ : Addr).add j=⟨g,j,none⟩:=by unfold Addr.add; split <;> simp_all
  rw [e]
  exact own_cell h rfl j u hj
end Go.Proofs.YtekoaheiapddiaaGreat.Dz
end
section
namespace Go.Proofs.YtekoaheiapddiaaGreat.Dz
open Go.RowKit
theorem toldE : toldCells tE=#[.int .u64 0,.int .u64 5,.int .u64 0,.int .u64 0,.int .u64 0,.int .u64 0,.string ⟨#[]⟩,.int .u64 0,.int .u64 0,.int .u64 0,.int .u64 0,.int .u8 1,.bool false,.string ⟨#[]⟩]:=rfl
theorem tolds_one (W:World) (t:ToldP) (ht:t.Ok) : Tolds (W.alloc (.cells (toldCells t) 104)) (some ⟨W.heap.size,0,none⟩) [t]:=by
 refine Or.inr ⟨W.heap.size,0,rfl,by simp,fun i u hu=>?_⟩
 match i,hu with
 | 0,hu=>
  cases hu
  refine⟨ht,fun j _=>?_⟩
  simp only [Nat.zero_mul,Nat.zero_add]
  rw [cell_of (heap_alloc_new W (.cells (toldCells t) 104))]
theorem accE : accC (rE 0)=#[.int .u64 5,.int .u64 0,.int .u64 0,.int .u64 0,.int .u64 0,.string ⟨#[]⟩]:=rfl
theorem accZ : accC ReplyP.zero=#[.int .u64 0,.int .u64 0,.int .u64 0,.int .u64 0,.int .u64 0,.string ⟨#[]⟩]:=rfl
abbrev acO (r:ReplyP) : Obj:=.cells (accC r) 82 (0,0)
set_option maxRecDepth 100000 in
set_option maxHeartbeats 8000000 in
theorem exam_c (W:World) : Calls Tryz.prog 11 #[] W fun e W'=>e=.returned (.bool true)∧Below W.heap.size W W':=by
 go_enter Tryz.func11,Tryz.ntmps11
 go_wp2_with fail
 refine (on_new 10000 (by omega) W).mono ?_
 rintro e W1 ⟨d,rfl,F1,h1,h2⟩
 have HN:=Lib.hid (cnew_c (name:=nmC) h1 (by show (1:Nat)≤maxLen; unfold maxLen; omega) (l:=[]) (r:=[]) Fs.nil)
 have H1:=Lib.hid (And.intro h1 h2)
 clear h1 h2
 go_wp2_with fail
 refine HN.out.mono ?_
 rintro e W2 ⟨rfl,h3,h4⟩
 have M2:=Am.new (name:=nmC) (l:=[]) H1.out.1 H1.out.2 h3 h4
 clear HN h3 h4
 have HB:=Lib.hid (show W.heap.size≤W1.heap.size from H1.out.2.size)
 clear H1
 generalize W1.heap.size+1=b at *
 generalize W1.heap.size=m at *
 have M3:=M2.call ((Below.refl _ _).alloc (Nat.le_refl _) (.cells (toldCells tE) 104))
 have SC:=Lib.hid (script_c [tE] (some ⟨W2.heap.size,0,none⟩) 1 _ (tolds_one W2 tE tE_ok) (by simp))
 rw [toldE] at M3 SC
 rw [script_E] at SC
 have HM3:=Lib.hid M3
 clear M2 M3
 go_wp2_with fail
 refine SC.out.mono ?_
 rintro e W3 ⟨v,rfl,k1,k2⟩
 have M4:=HM3.out.call k2
 obtain⟨va,vc,rfl⟩:=k1.form
 have HS:=Lib.hid (script_m M4.bo.at' [(rE 1).enc 1] va vc (src_own k1) (by simp))
 have HM4:=Lib.hid M4
 clear M4 HM3 SC k1 k2
 go_wp2_with fail
 refine HS.out.mono ?_
 rintro e W4 ⟨rfl,sv4,h5,h6⟩
 have M5:=HM4.out.client h5 h6
 clear HS HM4 h5 h6
 replace M5 : Am (Pd.new 10000) ⟨[],[(rE 1).enc 1],[]⟩ nmC d 0 F1 b m sv4 (.slice none 0 0) W (fun _=>False) [] W4:=M5
 obtain⟨p1,hx1⟩:=ex_one
 have A1:=Lib.hid (acct_c M5.bo addrE1 (by simp) (by omega) (by show (1:Nat)≤1000000; omega))
 rw [hx1] at A1
 simp only [accE] at A1
 have HM5:=Lib.hid M5
 clear M5 hx1
 go_wp2_with fail
 refine A1.out.mono ?_
 rintro e W5 ⟨rfl,F5,sv5,av5,hB,hC⟩
 have M6:=(HM5.out.step hB hC).alloc (acO (rE 0))
 clear HM5 A1 hB hC
 have A2:=Lib.hid (acct_c M6.bo addrE1 (by simp) (by omega) (by show (1:Nat)≤1000000; omega))
 rw [ex_two p1] at A2
 simp only [accE] at A2
 unfold acO at M6
 rw [accE] at M6
 have HM6:=Lib.hid M6
 clear M6
 go_wp2_with fail
 refine A2.out.mono ?_
 rintro e W6 ⟨rfl,F6,sv6,av6,hB,hC⟩
 have M7:=(HM6.out.step hB hC).alloc (acO (rE 0))
 clear HM6 A2 hB hC
 obtain⟨s3,hx3,hs3⟩:=ex_three p1
 have A3:=Lib.hid (acct_c M7.bo addrE2 (by simp) (by omega) (by show (1:Nat)≤1000000; omega))
 rw [hx3] at A3
 simp only [accZ] at A3
 unfold acO at M7
 rw [accE] at M7
 have HM7:=Lib.hid M7
 clear M7 hx3
 go_wp2_with fail
 refine A3.out.mono ?_
 rintro e W7 ⟨rfl,F7,sv7,av7,hB,hC⟩
 have M8:=(HM7.out.step hB hC).alloc (acO ReplyP.zero)
 clear HM7 A3 hB hC
 unfold acO at M8
 rw [accZ] at M8
 obtain⟨⟨x0,x1,x2,x3,x4,x5⟩,_⟩:=cells6 (M8.at (q:=W6.heap.size) (memC memS))
 obtain⟨⟨y0,y1,y2,y3,y4,y5⟩,_⟩:=cells6 (M8.at (q:=W5.heap.size) (memC (memC memS)))
 have AS:=Lib.hid (asked_c M8.bo.at' (by rw [hs3]; omega))
 have HM8:=Lib.hid M8
 clear M8
 go_wp2_with fail
 refine AS.out.mono ?_
 rintro e W8 ⟨v8,rfl,k1,k2⟩
 obtain⟨a8,c8,rfl⟩:=k1.form
 have M9:=HM8.out.call k2
 rw [hs3]
 have KN:=Lib.hid (known_c M9.bo.at')
 have HM9:=Lib.hid M9
 clear M9 HM8 AS k1 k2 x0 x1 x2 x3 x4 x5 y0 y1 y2 y3 y4 y5
 go_wp2_with fail
 refine KN.out.mono ?_
 rintro e W9 ⟨rfl,rfl⟩
 clear KN
 go_wp2_with fail
 go_ret
 exact⟨rfl,HM9.out.bel⟩
end Go.Proofs.YtekoaheiapddiaaGreat.Dz
end
