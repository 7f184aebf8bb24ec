/- Merged: Ls, Lc, Ld, Le. -/
import Derived.Test.YtekoaheiapddiaaGreatM13
import Derived.Test.YtekoaheiapddiaaGreatM10
import Derived.Lib.BitFns
import Derived.Maps.AppendAt
section
namespace Go.Proofs.YtekoaheiapddiaaGreat
open Go.RowKit
theorem Chg.toBelow {F F' : Nat→Prop} {B : Nat} {a b : World} (h:Chg F F' a b) (hB:B≤a.heap.size) (hf:∀ k,F k→B≤k) : Below B a b:=
 ⟨h.os,h.tape,h.output,h.size,fun k hk=>h.block k (by omega) (fun hh=>by have:=hf k hh; omega)⟩
set_option maxRecDepth 100000 in
set_option maxHeartbeats 4000000 in
theorem encode_c (S:Nat→Prop) (x:It) (v:Value) (w:World) (hS:∀ k,S k→k<w.heap.size) (hv:ItV S x v w) (hn:x.evs.length<800000) (hl:x.enc.length≤800000000) :
  Calls Tryz.prog 225 #[v] w fun e w'=>e=.returned (.string (str x.enc))∧Below w.heap.size w w':=by
 obtain⟨xb,xt,xa,xn,xc,rfl⟩:=hv.form
 have hm : ∀ (fn:Fn) (first cap : Array Value) (w:World),(Instr.makeFunc fn first cap).run Tryz.prog w=.ok (.func fn first cap) w:=fun _ _ _ _=>rfl
 obtain⟨W1,hW1⟩ : ∃ W1,W1=(w.alloc (.cells #[.bool xb,.string xt,.slice xa xn xc] 198)).alloc (.cells #[.slice none 0 0,.slice none 0 0] 333):=⟨_,rfl⟩
 have hold : ∀ k,k<w.heap.size→W1.heap[k]?=w.heap[k]?:=fun k hk=>by rw [hW1,heap_alloc_get,if_neg (by simp; omega),heap_alloc_get,if_neg (by omega)]
 have hsz : W1.heap.size=w.heap.size+2:=by rw [hW1]; simp
 have hrow : W1.heap[w.heap.size+1]?=some (.cells #[.slice none 0 0,.slice none 0 0] 333 (0,0)):=by rw [hW1]; exact heap_alloc2_new _ _ _
 have hbox : W1.heap[w.heap.size]?=some (.cells #[.bool xb,.string xt,.slice xa xn xc] 198 (0,0)):=by rw [hW1]; exact heap_alloc2_old _ _ _
 have hb1 : Below w.heap.size w W1:=⟨by rw [hW1]; rfl,by rw [hW1]; rfl,by rw [hW1]; rfl,by omega,hold⟩
 have hst : SuS (w.heap.size+1) (w.heap.size+2) ([],[]) W1:=⟨by omega,_,_,hrow,World.ownsRow_nil _ _ _ _,World.ownsRow_nil _ _ _ _,Or.inl rfl⟩
 have hf1 : ∀ k,SuF (w.heap.size+1) W1 k→w.heap.size+1≤k:=fun k hk=>by rcases hst.ftge k hk with h | h <;> omega
 have HBg:=Lib.hid (show Calls Tryz.prog 253 _ W1 fun e W'=>e=.returned (.tuple #[])∧SuS (w.heap.size+1) (w.heap.size+2) ([0],[0]) W'∧Below (w.heap.size+1) W1 W' from (sbegin_c hst (by simp) (by simp) (by omega)).mono fun e W' ⟨h1,h2,h3⟩=>⟨h1,h2,h3.toBelow (by omega) hf1⟩)
 have hrun:=su_run (x.fo .nil) [0] [] 0 (by simp) (by rw [← x.enc_fo]; simp; omega) (by rw [← x.evs_fo]; simp; omega) (by rw [← x.evs_fo]; simp; omega)
 rw [← x.evs_fo,← x.enc_fo] at hrun
 have hz : addAt [0] 0 x.enc.length ++ (x.fo .nil).szs=x.enc.length :: (x.fo .nil).szs:=by simp [addAt]
 rw [hz] at hrun
 have HWa:=Lib.hid (fun (V:World) (h1:SuS (w.heap.size+1) (w.heap.size+2) ([0],[0]) V) (h2:Below (w.heap.size+1) W1 V)=>show Calls Tryz.prog 254 #[.agg #[.bool xb,.string xt,.slice xa xn xc],.func (.func 253) #[.pointer (some ⟨w.heap.size+1,0,none⟩)] #[],.func (.func 255) #[.pointer (some ⟨w.heap.size+1,0,none⟩)] #[],.func (.func 256) #[.pointer (some ⟨w.heap.size+1,0,none⟩)] #[]] V fun e W'=>e=.returned (.tuple #[])∧SuS (w.heap.size+1) (w.heap.size+2) (x.enc.length :: (x.fo .nil).szs,[0]) W'∧Below (w.heap.size+1) V W' from by
   have hsV:=h2.size
   have hf : ∀ k,SuF (w.heap.size+1) V k→w.heap.size+1≤k:=fun k hk=>by rcases h1.ftge k hk with h | h <;> omega
   refine (walk_c (K:=suK (w.heap.size+1) (w.heap.size+2)) (S:=S) x _ V ([0],[0]) (fun k hk=>⟨by have:=hS k hk; omega,fun hh=>by have:=hS k hk; have:=hf k hh; omega⟩) (hv.kept fun k hk=>(h2.block k (by have:=hS k hk; omega)).trans (hold k (hS k hk))) ⟨h1,by omega⟩ hrun.1 (by omega)).mono fun e W' ⟨g1,g2,g3⟩=>⟨g1,?_,g3.toBelow (by omega) hf⟩
   have e : runE (suK (w.heap.size+1) (w.heap.size+2)).step ([0],[0]) x.evs=(x.enc.length :: (x.fo .nil).szs,[0]):=hrun.2
   rw [e] at g2
   exact g2.1)
 have HB1:=Lib.hid (And.intro hb1 (And.intro hbox (And.intro hsz hW1)))
 have HH:=Lib.hid (And.intro hv (And.intro hS (And.intro hn hl)))
 clear hold hsz hrow hbox hb1 hst hf1 hrun hz hv hS hn hl
 go_enter Tryz.func225,Tryz.ntmps225
 go_wp2_with fail
 rw [← HB1.out.2.2.2]
 refine HBg.out.mono ?_
 rintro e W2 ⟨rfl,h2,h3⟩
 have hbx2:=(h3.block _ (by omega)).trans HB1.out.2.1
 obtain⟨⟨c0,c1,c2⟩,_⟩:=cells3 hbx2
 have H2:=Lib.hid (And.intro h2 (And.intro h3 hbx2))
 clear h2 h3 hbx2
 go_wp2_with fail
 refine (HWa.out _ H2.out.1 H2.out.2.1).mono ?_
 rintro e W3 ⟨rfl,h2,h3⟩
 have hbx3:=(h3.block _ (by omega)).trans H2.out.2.2
 clear c0 c1 c2
 obtain⟨v1,v2,r1,r2,r3,r4⟩:=h2.row
 obtain⟨k,hk⟩ : ∃ k,(x.fo .nil).szs.length=k:=⟨_,rfl⟩
 have r2' : W3.ownsRow (w.heap.size+2) 3 1 v1 (k+1) (ints (x.enc.length :: (x.fo .nil).szs)):=by rw [← hk]; exact r2
 obtain⟨g,cap,rfl,hg1,hg2,hg3⟩:=own_form r2'
 have d0 : W3.cell? ⟨w.heap.size+1,0,none⟩=some (.slice (some ⟨g,0,none⟩) (k+1) cap):=cell_of r1 0
 have d1 : W3.cell? ⟨g,0,none⟩=some (.int .i64 (x.enc.length : Nat)):=own_cell r2' rfl 0 _ (by simp [ints])
 have d2 : ∀ j (h:j<(x.fo .nil).szs.length),W3.cell? ⟨g,1+j,none⟩=some (.int .i64 (((x.fo .nil).szs[j]'h : Nat) : Int)):=fun j hj=>by
  rw [Nat.add_comm]
  exact own_cell r2' rfl (j+1) _ (by simp [ints,hj])
 have hw3 : w.heap.size+2≤W3.heap.size:=by have:=H2.out.2.1.size; have:=HB1.out.2.2.1; have:=h3.size; omega
 have hsl:=slice_one_int g 0 k cap
 obtain⟨o2,ho2⟩ : ∃ o2,(if cap=1 then 0 else 0+1)=o2:=⟨_,rfl⟩
 rw [ho2] at hsl
 have hbw:=HB1.out.1.trans ((H2.out.2.1.trans (h3.mono (B':=w.heap.size+1) (by omega))).mono (by omega))
 have H3:=Lib.hid (And.intro hbw (And.intro hbx3 (And.intro hw3 (And.intro hk (And.intro hg1 (And.intro hg2 (And.intro hg3 (And.intro ho2 d2))))))))
 obtain⟨W4,hW4⟩ : ∃ W4,W4=W3.alloc (.cells #[.pointer none,.slice none 0 0,.slice (some ⟨g,o2,none⟩) k (cap-1)] 339):=⟨_,rfl⟩
 have hold : ∀ j,j<W3.heap.size→W4.heap[j]?=W3.heap[j]?:=fun j hj=>by rw [hW4]; exact Below.heap_alloc _ _ _ hj
 have e0:=(World.cell?_of_block (a:=⟨w.heap.size+1,0,none⟩) (hold (w.heap.size+1) (by omega))).trans d0
 have e1:=(World.cell?_of_block (a:=⟨g,0,none⟩) (hold g hg2)).trans d1
 have hnew : W4.heap[W3.heap.size]?=some (.cells #[.pointer none,.slice none 0 0,.slice (some ⟨g,o2,none⟩) k (cap-1)] 339 (0,0)):=by rw [hW4]; exact heap_alloc_new _ _
 have hs4 : W4.heap.size=W3.heap.size+1:=by rw [hW4]; simp
 have HGr:=Lib.hid (bgrow_c (Or.inl rfl) W3.heap.size (W3.heap.size+1) x.enc.length _ W4 hnew (by omega) (by omega) (by have:=HH.out.2.2.2; omega) (List.length_pos_iff.2 x.enc_ne))
 have hb4 : Below W3.heap.size W3 W4:=⟨by rw [hW4]; rfl,by rw [hW4]; rfl,by rw [hW4]; rfl,by omega,hold⟩
 have H4:=Lib.hid (And.intro hb4 (And.intro hs4 hW4))
 have hi0 : (1:Int)≤(k:Int)+1:=by omega
 have hi1 : (0:Int)<(k:Int)+1:=by omega
 rw [hW4] at e0 e1
 clear h2 h3 hbx3 r1 r2 r2' r3 r4 hk hg1 hg2 hg3 d1 d2 hw3 ho2 hbw hold hnew hs4 hb4 hW4 HBg HWa
 go_wp2_with fail
 rw [← H4.out.2.2]
 refine HGr.out.mono ?_
 rintro e W5 ⟨rfl,h5,h6⟩
 obtain⟨p1,p2,p3,p4,p5,p6,p7,p8,p9⟩:=H3.out
 obtain⟨q1,q2,_⟩:=H4.out
 have hk5 : ∀ j,j<W3.heap.size→W5.heap[j]?=W3.heap[j]?:=fun j hj=>(h6.block j (by omega) (by omega)).trans (q1.block j hj)
 have hs5:=h6.size
 have hb5 : Below w.heap.size w W5:=p1.trans ⟨h6.os.trans q1.os,h6.tape.trans q1.tape,h6.output.trans q1.output,by omega,fun j hj=>hk5 j (by omega)⟩
 have hbx5:=(hk5 _ (by omega)).trans p2
 obtain⟨⟨c0,c1,c2⟩,_⟩:=cells3 hbx5
 have hwr : WrS W3.heap.size (W3.heap.size+1) g ([],(x.fo .nil).szs ++ []) W5:=by
  rw [List.append_nil]
  refine⟨⟨by omega,by omega,by omega⟩,o2,cap-1,by rw [p4]; exact h5,by show (x.fo .nil).szs.length≤_; omega,fun j hj=>?_⟩
  have hj' : j<(x.fo .nil).szs.length:=hj
  rw [if_neg (by omega)] at p8
  have:=(World.cell?_of_block (a:=⟨g,1+j,none⟩) (hk5 g p6)).trans (p9 j hj')
  rw [← p8]
  exact this
 have hrun:=wr_run (x.fo .nil) [] [] (by rw [← x.enc_fo]; have:=HH.out.2.2.2; simp; omega)
 rw [← x.evs_fo,← x.enc_fo] at hrun
 have HW2:=Lib.hid (show Calls Tryz.prog 254 #[.agg #[.bool xb,.string xt,.slice xa xn xc],.func (.func 258) #[.pointer (some ⟨W3.heap.size,0,none⟩)] #[],.func (.func 259) #[.pointer (some ⟨W3.heap.size,0,none⟩)] #[],.func (.func 260) #[.pointer (some ⟨W3.heap.size,0,none⟩)] #[]] W5 fun e W'=>e=.returned (.tuple #[])∧(∃ y,BdS 339 W3.heap.size (W3.heap.size+1) x.enc y W')∧Below w.heap.size w W' from by
   have hfk : ∀ j,WrF W3.heap.size g W5 j→w.heap.size≤j:=fun j hj=>by
     rcases hj with hj | hj
     · have:=(BdS.ftlt h5 j hj).2; omega
     · omega
   have hS:=HH.out.2.1
   refine (walk_c (K:=wrK W3.heap.size (W3.heap.size+1) g) (S:=S) x _ W5 ([],(x.fo .nil).szs ++ []) (fun j hj=>⟨by have:=hS j hj; omega,fun hh=>by have:=hS j hj; have:=hfk j hh; omega⟩) (HH.out.1.kept fun j hj=>hb5.block j (hS j hj)) ⟨hwr,by omega⟩ hrun.1 (by have:=HH.out.2.2.1; omega)).mono fun e W' ⟨g1,g2,g3⟩=>⟨g1,?_,hb5.trans (g3.toBelow (by omega) hfk)⟩
   have e : runE (wrK W3.heap.size (W3.heap.size+1) g).step ([],(x.fo .nil).szs ++ []) x.evs=(x.enc,[]):=hrun.2.trans (by simp)
   rw [e] at g2
   obtain⟨o,c,g4,_⟩:=g2.1.bd
   exact⟨_,g4⟩)
 have HL:=Lib.hid (show x.enc.length≤900000000 by have:=HH.out.2.2.2; omega)
 have HX:=Lib.hid (show w.heap.size≤W3.heap.size by omega)
 clear p1 p2 p3 p4 p5 p6 p7 p8 p9 q1 q2 hk5 hs5 hb5 hbx5 hwr hrun h5 h6 e0 e1 d0 hW1
 go_wp2_with fail
 refine HW2.out.mono ?_
 rintro e W6 ⟨rfl,⟨y,h7⟩,h8⟩
 have H6:=Lib.hid (And.intro h7 h8)
 clear h7 h8 c0 c1 c2
 go_wp2_with fail
 refine (bstring_c H6.out.1 x.enc_ne HL.out).mono ?_
 rintro e W7 ⟨rfl,h9⟩
 have H7:=Lib.hid (H6.out.2.trans (h9.mono HX.out))
 clear h9
 go_wp2_with fail
 go_ret
 exact⟨rfl,H7.out⟩
end Go.Proofs.YtekoaheiapddiaaGreat
end
section
namespace Go.Proofs.YtekoaheiapddiaaGreat
open Go.RowKit
theorem or_byte (m b : Nat) (hm:m<72057594037927936) (hb:b<256) : Go.bits .or .u64 ((m:Int)*256) (b:Int)=((m*256+b : Nat) : Int):=by
 have h:=bits_or_u64_nat (m*256) b (by omega) (by omega)
 rw [show ((m*256 : Nat) : Int)=(m:Int)*256 by simp] at h
 rw [h]
 have h2:=Nat.shiftLeft_add_eq_or_of_lt (i:=8) (b:=b) (by omega) m
 rw [Nat.shiftLeft_eq] at h2
 rw [show m*256+b=m*2 ^ 8+b from rfl,h2]
theorem small_list_c (x v : Value) (w:World) : Calls Tryz.prog 231 #[.agg #[.bool true,x,v]] w fun e w'=>e=.returned (.tuple #[.int .u64 0,.bool false])∧Below w.heap.size w w':=by
 go_enter Tryz.func231,Tryz.ntmps231
 go_wp2_with fail
 exact bodyPost_ret (v:=.tuple #[.int .u64 0,.bool false]) (by simp [results,Tryz.results231,go_sem]) rfl ⟨rfl,(Below.refl _ _).alloc (Nat.le_refl _) _⟩
theorem small_long_c (s:ByteArray) (v:Value) (h:8<s.size) (w:World) : Calls Tryz.prog 231 #[.agg #[.bool false,.string s,v]] w fun e w'=>e=.returned (.tuple #[.int .u64 0,.bool false])∧Below w.heap.size w w':=by
 have hi : (8:Int)<(s.size : Int):=by omega
 go_enter Tryz.func231,Tryz.ntmps231
 go_wp2_with fail
 exact bodyPost_ret (v:=.tuple #[.int .u64 0,.bool false]) (by simp [results,Tryz.results231,go_sem]) rfl ⟨rfl,(Below.refl _ _).alloc (Nat.le_refl _) _⟩
theorem small_zero_c (s:ByteArray) (v:Value) (h:s.size≤8) (h0:0<s.size) (hz:(s[0]'h0).toNat=0) (w:World) : Calls Tryz.prog 231 #[.agg #[.bool false,.string s,v]] w fun e w'=>e=.returned (.tuple #[.int .u64 0,.bool false])∧Below w.heap.size w w':=by
 have hi : ¬ (8:Int)<(s.size : Int):=by omega
 have hj : (0:Int)<(s.size : Int):=by omega
 have hx : ∀ W,(Instr.index 9 (.string s) (.int .i64 0)).run Tryz.prog W=.ok (.int .u8 0) W:=fun W=>by
  rw [run_index_string W _ _ _ _ Tryz.underlying9,dif_pos ⟨by omega,by omega⟩]
  simp [hz]
 clear hz
 go_enter Tryz.func231,Tryz.ntmps231
 go_wp2_with fail
 exact bodyPost_ret (v:=.tuple #[.int .u64 0,.bool false]) (by simp [results,Tryz.results231,go_sem]) rfl ⟨rfl,(Below.refl _ _).alloc (Nat.le_refl _) _⟩
set_option maxRecDepth 100000 in
set_option maxHeartbeats 2000000 in
theorem small_ok_c (s:List UInt8) (v:Value) (h:s.length≤8) (hh:s.head?≠some 0) (w:World) : Calls Tryz.prog 231 #[.agg #[.bool false,.string (str s),v]] w fun e w'=>e=.returned (.tuple #[.int .u64 (val s),.bool true])∧Below w.heap.size w w':=by
 have hsz:=str_size s
 have hi : ¬ (8:Int)<((str s).size : Int):=by omega
 have hx0 : 0<(str s).size→∃ z : Nat,z≠0∧z<256∧∀ W,(Instr.index 9 (.string (str s)) (.int .i64 0)).run Tryz.prog W=.ok (.int .u8 (z:Nat)) W:=by
  intro h0
  rcases s with _ | ⟨b,r⟩
  ·simp [str_size] at h0
  ·refine⟨b.toNat,fun e=>hh (by simp; exact UInt8.toNat_inj.1 (by simpa using e)),b.toNat_lt,fun W=>?_⟩
   rw [run_index_string W _ _ _ _ Tryz.underlying9,dif_pos ⟨by omega,by omega⟩]
   simp [str_get]
 have hx : ∀ k (hk:k<s.length) (W:World),(Instr.index 9 (.string (str s)) (.int .i64 (k:Nat))).run Tryz.prog W=.ok (.int .u8 ((s[k]'hk).toNat : Nat)) W:=fun k hk W=>by
  rw [run_index_string W _ _ _ _ Tryz.underlying9,dif_pos ⟨by omega,by omega⟩]
  simp [str_get]
 have HX:=Lib.hid hx; clear hx
 have HV : ∀ k,k<s.length→∃ b : Nat,b<256∧val (s.take k)<256 ^ 7∧val (s.take (k+1))=val (s.take k)*256+b∧∀ W : World,(Instr.index 9 (.string (str s)) (.int .i64 (k:Nat))).run Tryz.prog W=.ok (.int .u8 (b:Nat)) W:=fun k hk=>by
  refine⟨(s[k]'hk).toNat,(s[k]'hk).toNat_lt,?_,?_,HX.out k hk⟩
  ·refine Nat.lt_of_lt_of_le (val_lt _) (Nat.pow_le_pow_right (by decide) ?_)
   rw [List.length_take]; omega
  ·rw [List.take_succ_eq_append_getElem hk,val_snoc]
 replace HV:=Lib.hid HV
 have HT:=Lib.hid (show val (s.take s.length)=val s by rw [List.take_length])
 have H0:=Lib.hid (show val (s.take 0)=0 from rfl)
 clear HX hh
 rw [← hsz] at HV HT h
 generalize str s=x at *
 have hsl:=Lib.hid hsz
 clear hsz
 have loop : ∀ h0 : (0<x.size)∨¬ 0<x.size,Calls Tryz.prog 231 #[.agg #[.bool false,.string x,v]] w fun e w'=>e=.returned (.tuple #[.int .u64 (val s),.bool true])∧Below w.heap.size w w':=by
  intro h0
  rcases h0 with h0 | h0
  ·obtain⟨z,hz0,hz1,hz⟩:=hx0 h0
   have hj : (0:Int)<(x.size : Int):=by omega
   have hzz : ((z:Int) == 0)=false:=by simpa using hz0
   go_enter Tryz.func231,Tryz.ntmps231
   go_wp2_with fail
   clear hx0
   obtain⟨w1,hw1⟩ : ∃ w1,w1=w.alloc (.cells #[.bool false,.string x,v] 198):=⟨_,rfl⟩
   have hc1 : w1.cell? ⟨w.heap.size,1,none⟩=some (.string x):=by rw [hw1]; exact cell_of (heap_alloc_new w (.cells #[.bool false,.string x,v] 198)) 1
   have HB:=Lib.hid (show Below w.heap.size w w1 from by rw [hw1]; exact (Below.refl w.heap.size w).alloc (Nat.le_refl _) _)
   rw [← hw1]
   clear hw1
   go_loopw [4,29] (fun a i wr=>∃ k : Nat,a=.int .u64 (val (s.take k) : Nat)∧i=.int .i64 k∧k≤x.size∧wr=w1) (fun _ i _=>x.size-(intOf i).toNat)
   case atStart=>exact⟨0,by rw [H0.out]; rfl,rfl,by omega,rfl⟩
   case round=>
    obtain⟨k,rfl,rfl,hk,rfl⟩:=hrel
    by_cases hlt : k<x.size
    ·have hli : (k:Int)<(x.size : Int):=by omega
     obtain⟨b,hb,hv,hn,hix⟩:=HV.out k (by have:=hsl.out; omega)
     have HN:=Lib.hid hn; clear hn
     generalize hm : val (s.take k)=m at *
     go_wp2_with fail
     refine⟨⟨k+1,?_,by simp,by omega,trivial⟩,by simp [intOf]; omega⟩
     rw [HN.out,or_byte m b (by simpa using hv) hb]
    ·have hli : ¬ (k:Int)<(x.size : Int):=by omega
     obtain rfl : k=x.size:=by omega
     rw [HT.out]
     go_wp2_with fail
     exact bodyPost_ret (v:=.tuple #[.int .u64 (val s : Nat),.bool true]) (by simp [results,Tryz.results231,go_sem]) rfl ⟨rfl,HB.out⟩
  ·have hj : ¬ (0:Int)<(x.size : Int):=by omega
   go_enter Tryz.func231,Tryz.ntmps231
   go_wp2_with fail
   clear hx0
   obtain⟨w1,hw1⟩ : ∃ w1,w1=w.alloc (.cells #[.bool false,.string x,v] 198):=⟨_,rfl⟩
   have hc1 : w1.cell? ⟨w.heap.size,1,none⟩=some (.string x):=by rw [hw1]; exact cell_of (heap_alloc_new w (.cells #[.bool false,.string x,v] 198)) 1
   have HB:=Lib.hid (show Below w.heap.size w w1 from by rw [hw1]; exact (Below.refl w.heap.size w).alloc (Nat.le_refl _) _)
   rw [← hw1]
   clear hw1
   go_loopw [4,29] (fun a i wr=>∃ k : Nat,a=.int .u64 (val (s.take k) : Nat)∧i=.int .i64 k∧k≤x.size∧wr=w1) (fun _ i _=>x.size-(intOf i).toNat)
   case atStart=>exact⟨0,by rw [H0.out]; rfl,rfl,by omega,rfl⟩
   case round=>
    obtain⟨k,rfl,rfl,hk,rfl⟩:=hrel
    by_cases hlt : k<x.size
    ·omega
    ·have hli : ¬ (k:Int)<(x.size : Int):=by omega
     obtain rfl : k=x.size:=by omega
     rw [HT.out]
     go_wp2_with fail
     exact bodyPost_ret (v:=.tuple #[.int .u64 (val s : Nat),.bool true]) (by simp [results,Tryz.results231,go_sem]) rfl ⟨rfl,HB.out⟩
 exact loop (Classical.em _)
end Go.Proofs.YtekoaheiapddiaaGreat
end
section
namespace Go.Proofs.YtekoaheiapddiaaGreat
open Go.RowKit
def boom : List PanicEntry:=[{ v:=.iface 27 (.int .i64 2),recovered:=false }]
theorem must_ok (w:World) : Calls Tryz.prog 146 #[.bool true] w fun e w'=>e=.returned (.tuple #[])∧w'=w:=by
 go_enter Tryz.func146,Tryz.ntmps146
 go_wp2_with fail
 go_end0
 exact⟨rfl,rfl⟩
theorem must_no (w:World) : Calls Tryz.prog 146 #[.bool false] w fun e w'=>e=.panicked boom∧w'=w:=by
 go_enter Tryz.func146,Tryz.ntmps146
 go_wp2_with fail
 exact⟨rfl,rfl,rfl⟩
def Rd (g:Nat) (s:List UInt8) (W:World) : Prop:=W.heap[g]?=some (.cells #[.string (str s)] 245 (0,0))
theorem Rd.set {g : Nat} {s t : List UInt8} {W : World} (h:Rd g s W) : Rd g t (W.setCell ⟨g,0,none⟩ (.string (str t))):=by
 have e:=heap_setCell_same _ _ 0 _ _ (.string (str t)) h
 unfold Rd
 simpa using e
theorem Rd.only {g B : Nat} {u : Value} (W:World) : Only (fun k=>k=g) B W (W.setCell ⟨g,0,none⟩ u):=(Only.refl (fun k=>k=g) _ _).setCell (p:=⟨g,0,none⟩) (Or.inr rfl) _
theorem str_take (s:List UInt8) (n:Nat) : (str s).extract 0 n=str (s.take n):=by
 apply ByteArray.ext
 simp [str,ByteArray.data_extract]
theorem str_drop (s:List UInt8) (n:Nat) : (str s).extract n (str s).size=str (s.drop n):=by
 apply ByteArray.ext
 simp [str,ByteArray.data_extract,ByteArray.size]
 rw [List.take_of_length_le (by simp)]
theorem take_ok (g:Nat) (s:List UInt8) (n:Nat) (hn:n≤s.length) (hs:s.length<9223372036854775808) (w:World) (h:Rd g s w) :
  Calls Tryz.prog 180 #[.pointer (some ⟨g,0,none⟩),.int .u64 n] w fun e w'=>e=.returned (.string (str (s.take n)))∧w'=w.setCell ⟨g,0,none⟩ (.string (str (s.drop n))):=by
 have c0:=cell_of h 0
 have z0:=free_of h 0
 have h1:=str_take s n
 have h2:=str_drop s n
 have hsz:=str_size s
 rw [← hsz] at hs hn
 generalize str s=x at *
 generalize str (s.take n)=y at *
 generalize str (s.drop n)=z at *
 have hi : (n:Int)≤(x.size : Int):=by omega
 clear hsz h
 go_enter Tryz.func180,Tryz.ntmps180
 go_wp2_with (go_at_call 146; refine (must_ok _).mono ?_; rintro e w1 ⟨rfl,rfl⟩)
 go_ret
 exact⟨rfl,rfl⟩
theorem take_no (g:Nat) (s:List UInt8) (n:Nat) (hn:¬ n≤s.length) (hs:s.length<9223372036854775808) (w:World) (h:Rd g s w) :
  Calls Tryz.prog 180 #[.pointer (some ⟨g,0,none⟩),.int .u64 n] w fun e w'=>e=.panicked boom∧w'=w:=by
 have c0:=cell_of h 0
 have hsz:=str_size s
 rw [← hsz] at hs hn
 generalize str s=x at *
 have hi : ¬ (n:Int)≤(x.size : Int):=by omega
 clear hsz h
 go_enter Tryz.func180,Tryz.ntmps180
 go_wp2_with (go_at_call 146; refine (must_no _).mono ?_; rintro e w1 ⟨rfl,rfl⟩)
 exact⟨rfl,rfl,rfl⟩
def RdR (g:Nat) (w:World) (r:Option (List UInt8×List UInt8)) (e:Ending) (w' : World) : Prop:=
 Only (fun k=>k=g) w.heap.size w w'∧match r with
  | some (a,b)=>e=.returned (.string (str a))∧Rd g b w'
  | none=>e=.panicked boom
theorem take_c (g:Nat) (s:List UInt8) (n:Nat) (hs:s.length<9223372036854775808) (w:World) (h:Rd g s w) :
  Calls Tryz.prog 180 #[.pointer (some ⟨g,0,none⟩),.int .u64 n] w (RdR g w (tk n s)):=by
 by_cases hn : n≤s.length
 ·refine (take_ok g s n hn hs w h).mono ?_
  rintro e w' ⟨rfl,rfl⟩
  unfold tk
  rw [if_pos hn]
  exact⟨Rd.only w,rfl,h.set⟩
 ·refine (take_no g s n hn hs w h).mono ?_
  rintro e w' ⟨rfl,rfl⟩
  unfold tk
  rw [if_neg hn]
  exact⟨Only.refl _ _ _,rfl⟩
theorem Rd.later {g : Nat} {s : List UInt8} {W W' : World} (h:Rd g s W) (hb:Below W.heap.size W W') : Rd g s W':=(hb.block _ (lt_of h)).trans h
theorem tk_length {n : Nat} {s a b : List UInt8} (h:tk n s=some (a,b)) : a.length=n∧b.length=s.length-n∧s=a ++ b∧n≤s.length:=by
 unfold tk at h
 split at h
 ·rename_i hn
  cases h
  exact⟨by simp; omega,by simp,(List.take_append_drop _ _).symm,hn⟩
 ·cases h
theorem Only.thenB {may : Nat→Prop} {w w1 w2 : World} (h:Only may w.heap.size w w1) (hb:Below w1.heap.size w1 w2) : Only may w.heap.size w w2:=h.trans ((Only.of_below hb).mono h.size (fun _ _ h=>h))
theorem Only.thenO {may : Nat→Prop} {w w1 w2 : World} (h:Only may w.heap.size w w1) (hb:Only may w1.heap.size w1 w2) : Only may w.heap.size w w2:=h.trans (hb.mono h.size (fun _ _ h=>h))
theorem body_short (g:Nat) (s:List UInt8) (a:Nat) (ha:a≤55) (hs:s.length<9223372036854775808) (w:World) (h:Rd g s w) :
  Calls Tryz.prog 183 #[.pointer (some ⟨g,0,none⟩),.int .u8 a] w (RdR g w (tk a s)):=by
 have hi : (a:Int)≤55:=by omega
 have HT:=Lib.hid (fun W h=>take_c g s a hs W h)
 have H:=Lib.hid h
 clear h
 cases hk : tk a s with
 | none=>
  rw [hk] at HT
  clear hk
  go_enter Tryz.func183,Tryz.ntmps183
  go_wp2_with (go_at_call 180; refine (HT.out _ H.out).mono ?_; rintro e w1 ⟨ho,rfl⟩; have HO:=Lib.hid ho; clear ho)
  exact⟨rfl,HO.out,rfl⟩
 | some x=>
  obtain⟨y,z⟩:=x
  rw [hk] at HT
  clear hk
  go_enter Tryz.func183,Tryz.ntmps183
  go_wp2_with (go_at_call 180; refine (HT.out _ H.out).mono ?_; rintro e w1 ⟨ho,rfl,hr⟩; have HO:=Lib.hid (And.intro ho hr); clear ho hr)
  go_ret
  exact⟨HO.out.1,rfl,HO.out.2⟩
set_option maxRecDepth 100000 in
set_option maxHeartbeats 1000000 in
theorem body_long (g:Nat) (s:List UInt8) (a:Nat) (ha:55<a) (ha2:a<64) (hs:s.length<9223372036854775808) (w:World) (h:Rd g s w) :
  Calls Tryz.prog 183 #[.pointer (some ⟨g,0,none⟩),.int .u8 a] w (RdR g w (bodyP a s)):=by
 have hi : ¬ (a:Int)≤55:=by omega
 have hi2 : ((a-55 : Nat) : Int)=(a:Int)-55:=by omega
 have HT:=Lib.hid (fun W h=>take_c g s (a-55) hs W h)
 have H:=Lib.hid h
 clear h
 rw [hi2] at HT
 have hB : bodyP a s=match tk (a-55) s with
  | none=>none
  | some (n,r)=>if smallL n=true∧55<val n then tk (val n) r else none:=by unfold bodyP; rw [if_neg (by omega)]; rfl
 have HK:=Lib.hid (fun x y h=>tk_length (n:=a-55) (s:=s) (a:=x) (b:=y) h)
 rw [hB]
 clear hB
 cases hk : tk (a-55) s with
 | none=>
  rw [hk] at HT
  clear hk hi2
  go_enter Tryz.func183,Tryz.ntmps183
  go_wp2_with (go_at_call 180; refine (HT.out _ H.out).mono ?_; rintro e w1 ⟨ho,rfl⟩; have HO:=Lib.hid ho; clear ho)
  exact⟨rfl,HO.out,rfl⟩
 | some x=>
  obtain⟨y,z⟩:=x
  have hl:=HK.out _ _ hk
  rw [hk] at HT
  clear hk hi2
  have hzl:=Lib.hid (show z.length<9223372036854775808 by omega)
  have hy8:=Lib.hid (show y.length≤8 by omega)
  clear hl
  show Calls _ _ _ _ (RdR g w (if smallL y=true∧55<val y then tk (val y) z else none))
  by_cases hsm : smallL y=true
  ·have hh : y.head?≠some 0:=by
    unfold smallL at hsm
    simpa [hy8.out] using hsm
   have hv : val y<18446744073709551616:=Nat.lt_of_lt_of_le (val_lt y) (Nat.le_trans (Nat.pow_le_pow_right (by decide) hy8.out) (by decide))
   have HS:=Lib.hid (fun W=>small_ok_c y (.slice none 0 0) hy8.out hh W)
   have HT2:=Lib.hid (fun W h=>take_c g z (val y) hzl.out W h)
   clear hh
   generalize val y=v at *
   by_cases h55 : 55<v
   ·have hvi : (55:Int)<(v:Int):=by omega
    rw [if_pos ⟨hsm,h55⟩]
    clear hsm
    cases hk2 : tk v z with
    | none=>
     rw [hk2] at HT2
     clear hk2
     go_enter Tryz.func183,Tryz.ntmps183
     go_wp2_with (first
       | (go_at_call 180; refine (HT.out _ H.out).mono ?_; rintro e w1 ⟨ho,rfl,hr⟩; have HO:=Lib.hid (And.intro ho hr); clear ho hr HT; generalize str y=x at *)
       | (go_at_call 182; refine (text_c _ _).mono ?_; rintro e w2 ⟨rfl,hb⟩; have HO2:=Lib.hid hb; clear hb; unfold textV)
       | (go_at_call 231; refine (HS.out _).mono ?_; rintro e w3 ⟨rfl,hb⟩; have HO3:=Lib.hid hb; clear hb)
       | (go_at_call 146; refine (must_ok _).mono ?_; rintro e w4 ⟨rfl,rfl⟩))
     refine (HT2.out _ ((HO.out.2.later HO2.out).later HO3.out)).mono ?_
     rintro e w5 ⟨ho5,rfl⟩
     exact⟨rfl,((HO.out.1.thenB HO2.out).thenB HO3.out).thenO ho5,rfl⟩
    | some q=>
     obtain⟨p,q⟩:=q
     rw [hk2] at HT2
     clear hk2
     go_enter Tryz.func183,Tryz.ntmps183
     go_wp2_with (first
       | (go_at_call 180; refine (HT.out _ H.out).mono ?_; rintro e w1 ⟨ho,rfl,hr⟩; have HO:=Lib.hid (And.intro ho hr); clear ho hr HT; generalize str y=x at *)
       | (go_at_call 182; refine (text_c _ _).mono ?_; rintro e w2 ⟨rfl,hb⟩; have HO2:=Lib.hid hb; clear hb; unfold textV)
       | (go_at_call 231; refine (HS.out _).mono ?_; rintro e w3 ⟨rfl,hb⟩; have HO3:=Lib.hid hb; clear hb)
       | (go_at_call 146; refine (must_ok _).mono ?_; rintro e w4 ⟨rfl,rfl⟩))
     refine (HT2.out _ ((HO.out.2.later HO2.out).later HO3.out)).mono ?_
     rintro e w5 ⟨ho5,rfl,hr5⟩
     have HO5:=Lib.hid (And.intro ho5 hr5)
     clear ho5 hr5
     go_wp2_with fail
     go_ret
     exact⟨((HO.out.1.thenB HO2.out).thenB HO3.out).thenO HO5.out.1,rfl,HO5.out.2⟩
   ·have hvi : decide ((55:Int)<(v:Int))=false:=decide_eq_false (by omega)
    rw [if_neg fun h=>h55 h.2]
    clear hsm HT2
    go_enter Tryz.func183,Tryz.ntmps183
    go_wp2_with (first
      | (go_at_call 180; refine (HT.out _ H.out).mono ?_; rintro e w1 ⟨ho,rfl,hr⟩; have HO:=Lib.hid (And.intro ho hr); clear ho hr HT; generalize str y=x at *)
      | (go_at_call 182; refine (text_c _ _).mono ?_; rintro e w2 ⟨rfl,hb⟩; have HO2:=Lib.hid hb; clear hb; unfold textV)
      | (go_at_call 231; refine (HS.out _).mono ?_; rintro e w3 ⟨rfl,hb⟩; have HO3:=Lib.hid hb; clear hb)
      | (go_at_call 146; refine (must_no _).mono ?_; rintro e w4 ⟨rfl,rfl⟩))
    exact⟨rfl,(HO.out.1.thenB HO2.out).thenB HO3.out,rfl⟩
  ·have h0 : ∃ r,y=0 :: r:=by
    rcases y with _ | ⟨b,r⟩
    ·simp [smallL] at hsm
    ·refine⟨r,?_⟩
     have h1 : ¬ (smallL (b :: r)=true):=hsm
     have h8:=hy8.out
     simp only [List.length_cons] at h8
     simp [smallL,h8] at h1
     exact h1 ▸ rfl
   rw [if_neg fun h=>hsm h.1]
   have HS : Hid (∀ W,Calls Tryz.prog 231 #[.agg #[.bool false,.string (str y),.slice none 0 0]] W fun e w'=>e=.returned (.tuple #[.int .u64 0,.bool false])∧Below W.heap.size W w'):=by
    obtain⟨r,rfl⟩:=h0
    exact Lib.hid fun W=>small_zero_c (str (0 :: r)) _ (by rw [str_size]; exact hy8.out) (by simp [str_size]) (by rw [str_get]; rfl) W
   clear hsm h0
   go_enter Tryz.func183,Tryz.ntmps183
   go_wp2_with (first
     | (go_at_call 180; refine (HT.out _ H.out).mono ?_; rintro e w1 ⟨ho,rfl,hr⟩; have HO:=Lib.hid (And.intro ho hr); clear ho hr HT; generalize str y=x at *)
     | (go_at_call 182; refine (text_c _ _).mono ?_; rintro e w2 ⟨rfl,hb⟩; have HO2:=Lib.hid hb; clear hb; unfold textV)
     | (go_at_call 231; refine (HS.out _).mono ?_; rintro e w3 ⟨rfl,hb⟩; have HO3:=Lib.hid hb; clear hb)
     | (go_at_call 146; refine (must_no _).mono ?_; rintro e w4 ⟨rfl,rfl⟩))
   exact⟨rfl,(HO.out.1.thenB HO2.out).thenB HO3.out,rfl⟩
theorem body_c (g:Nat) (s:List UInt8) (a:Nat) (ha:a<64) (hs:s.length<9223372036854775808) (w:World) (h:Rd g s w) :
  Calls Tryz.prog 183 #[.pointer (some ⟨g,0,none⟩),.int .u8 a] w (RdR g w (bodyP a s)):=by
 by_cases h55 : a≤55
 ·have:=body_short g s a h55 hs w h
  rwa [show bodyP a s=tk a s from if_pos h55]
 ·exact body_long g s a (by omega) ha hs w h
end Go.Proofs.YtekoaheiapddiaaGreat
end
section
namespace Go.Proofs.YtekoaheiapddiaaGreat
open Go.RowKit
theorem infoItem : (Tryz.prog.info? 198).map (fun i=>(i.zero,i.size,i.bytes))=some (some (.agg #[.bool false,.string ⟨#[]⟩,.slice none 0 0]),3,48):=by kernel_rfl
def Own (B:Nat) (f:Fo) (v:Value) (W:World) : Prop:=
 ∃ (S:Nat→Prop) (xs:List Value),W.ownsRow B 198 3 v f.len xs∧Cel S f xs W∧∀ k,S k→B≤k∧k<W.heap.size∧v.ownBlock≠some k
theorem Own.sl {B : Nat} {f : Fo} {v : Value} {W : World} (h:Own B f v W) : SlF (fun k=>B≤k∧k<W.heap.size) f v W:=by
 obtain⟨S,xs,ho,hc,hS⟩:=h
 have hc':=hc.mono (T:=fun k=>B≤k∧k<W.heap.size) (fun k hk=>⟨(hS k hk).1,(hS k hk).2.1⟩) f xs
 rcases ho.2 with ⟨rfl,h0⟩ | ⟨g,cap,cur,rfl,hb,hg,hn,_,_,_⟩
 ·left
  refine⟨rfl,?_⟩
  cases f with
  | nil=>rfl
  | text s r=>simp [Fo.len] at h0
  | list i r=>simp [Fo.len] at h0
 ·right
  refine⟨g,0,cap,rfl,⟨hb,lt_of hg⟩,hn,?_⟩
  refine Cel.at f xs 0 (fun j u hj=>?_) hc'
  have h:=ho.cells (g:=g) rfl j u hj
  have e : (⟨g,0,none⟩ : Addr).add j=⟨g,j,none⟩:=by unfold Addr.add; split <;> simp_all
  rw [e] at h
  rw [Nat.zero_add]; exact h
theorem Own.nil (B:Nat) (W:World) : Own B .nil (.slice none 0 0) W:=⟨fun _=>False,[],World.ownsRow_nil _ _ _ _,rfl,fun _ h=>h.elim⟩
theorem Own.kept {B : Nat} {f : Fo} {v : Value} {W W' : World} (h:Own B f v W) (hb:∀ k,B≤k→k<W.heap.size→W'.heap[k]?=W.heap[k]?) (hs:W.heap.size≤W'.heap.size) : Own B f v W':=by
 obtain⟨S,xs,ho,hc,hS⟩:=h
 refine⟨S,xs,?_,hc.kept (fun k hk=>hb k (hS k hk).1 (hS k hk).2.1) f xs,fun k hk=>⟨(hS k hk).1,Nat.lt_of_lt_of_le (hS k hk).2.1 hs,(hS k hk).2.2⟩⟩
 refine⟨ho.1,?_⟩
 rcases ho.2 with h0 | ⟨g,cap,cur,rfl,hbg,hg,rest⟩
 ·exact Or.inl h0
 ·exact Or.inr ⟨g,cap,cur,rfl,hbg,(hb g hbg (lt_of hg)).trans hg,rest⟩
theorem Own.blk {B : Nat} {f : Fo} {v : Value} {W : World} (h:Own B f v W) : ∀ k,v.ownBlock=some k→B≤k∧k<W.heap.size:=by
 obtain⟨S,xs,ho,_⟩:=h
 exact ho.lt
theorem Own.later2 {B g : Nat} {f : Fo} {v : Value} {W W1 : World} (o:Obj) (h:Own B f v W) (hg:g<B) (ho:Only (fun k=>k=g) W.heap.size W W1) : Own B f v (W1.alloc o):=by
 refine (h.kept (fun k hk hk2=>ho.block k hk2 (by omega)) ho.size).kept (fun k _ hk2=>Below.heap_alloc _ _ _ hk2) (by simp)
theorem wpList_append_item {ops : Array Oper} {rest : List Oper} {o : Oper} {a : Act} {Q : Exit→Act→World→Prop} {W : World} (hgd:o.guard=none) (s x : Operand)
  (ho:o.op=.call { callee:=.builtin .append,args:=#[s,x],argTypes:=#[196,196] })
  (B:Nat) (v:Value) (f:Fo) (it:It) (b:Bool) (t:ByteArray) (l:Value) (S:Nat→Prop) (hs:a.eval s=v) (h:Own B f v W) (hS:∀ k,S k→B≤k∧k<W.heap.size∧v.ownBlock≠some k)
  (hone:l.oneCell'=true) (hcel:Cel S (it.fo .nil) [.bool b,.string t,l] W)
  (q:Nat) (hx:a.eval x=.slice (some ⟨q,0,none⟩) 1 1) (hz:W.heap[q]?=some (.cells #[.bool b,.string t,l] 198 (0,0))) (hB:B≤W.heap.size) (hn:f.len<1000000)
  (hK:∀ v' W',Own B (f.app (it.fo .nil)) v' W'→W.grownBy W' v.ownBlock→(v'.ownBlock=v.ownBlock∨v'.ownBlock=some W.heap.size)→wpList Tryz.prog ops Q rest (a.put o.dst v') W') : wpList Tryz.prog ops Q (o :: rest) a W:=by
 obtain⟨i0,hi,hz0,hz1,hz2⟩:=info_parts infoItem
 obtain⟨S0,xs,hown,hc,hS0⟩:=h
 have hlen : (it.fo .nil).len=1:=by cases it <;> rfl
 refine wpList_append_own_at W hgd s x 196 ho B 198 i0 _ 3 48 Tryz.underlying196 hi hz0 hz1 hz2 rfl (by omega) v f.len xs hs hown ⟨q,0,none⟩ 1 1 [.bool b,.string t,l] hx rfl ?_ ?_ (by unfold maxLen; omega) (by omega) hB ?_
 ·intro j u hj
  have e : (⟨q,0,none⟩ : Addr).add j=⟨q,j,none⟩:=by unfold Addr.add; split <;> simp_all
  rw [e,cell_of hz]
  simpa using hj
 ·intro u hu
  simp only [List.mem_cons,List.not_mem_nil,or_false] at hu
  rcases hu with rfl | rfl | rfl
  ·rfl
  ·rfl
  ·exact hone
 ·intro v' W' h1 h2 h3 h4
  refine hK v' W' ?_ h2 h4
  have hk0 : ∀ k,S0 k→W'.heap[k]?=W.heap[k]?:=fun k hk=>h2.block k (hS0 k hk).2.1 (fun e=>(hS0 k hk).2.2 e.symm)
  have hk1 : ∀ k,S k→W'.heap[k]?=W.heap[k]?:=fun k hk=>h2.block k (hS k hk).2.1 (fun e=>(hS k hk).2.2 e.symm)
  refine⟨fun k=>S0 k∨S k,xs ++ [.bool b,.string t,l],?_,?_,?_⟩
  ·rw [Fo.len_app,hlen]; exact h1
  ·exact Cel.app ((hcel.kept hk1 _ _).mono (fun _ h=>Or.inr h) _ _) _ _ ((hc.kept hk0 _ _).mono (fun _ h=>Or.inl h) _ _)
  ·intro k hk
   have hkk : B≤k∧k<W.heap.size∧v.ownBlock≠some k:=hk.elim (hS0 k) (hS k)
   refine⟨hkk.1,Nat.lt_of_lt_of_le hkk.2.1 h2.size,?_⟩
   rcases h4 with h4 | h4
   ·rw [h4]; exact hkk.2.2
   ·rw [h4]; intro e; injection e with e; omega
theorem tk_le {n : Nat} {s a b : List UInt8} (h:tk n s=some (a,b)) : b.length≤s.length∧a.length≤s.length:=by
 have:=tk_length h; omega
theorem bodyP_le {a : Nat} {s x r : List UInt8} (h:bodyP a s=some (x,r)) : r.length≤s.length∧x.length≤s.length:=by
 unfold bodyP at h
 split at h
 ·exact tk_le h
 ·cases hk : tk (a-55) s with
  | none=>rw [hk] at h; cases h
  | some q=>
   obtain⟨n,q⟩:=q
   rw [hk] at h
   simp only at h
   split at h
   ·have h1:=tk_le hk
    have h2:=tk_le h
    omega
   ·cases h
theorem itemP_lt {d : Nat} {s r : List UInt8} {f : Fo} (h:itemP d s=some (f,r)) : r.length<s.length:=by
 rcases d with _ | d
 ·exact absurd (show none=some (f,r) from h) (by simp)
 ·rcases s with _ | ⟨b,s⟩
  ·exact absurd (show none=some (f,r) from h) (by simp)
  ·change itemS (itemP d) (b :: s)=some (f,r) at h
   generalize itemP d=p at h
   unfold itemS at h
   simp only at h
   split at h
   ·simp at h; rw [← h.2]; simp
   ·split at h
    ·generalize hk : bodyP (b.toNat-128) s=q at h
     rcases q with _ | ⟨x,q⟩
     ·simp [textS] at h
     ·have:=bodyP_le hk
      simp only [textS] at h
      split at h
      ·simp at h
      ·simp at h; rw [← h.2]; simp; omega
    ·generalize hk : bodyP (b.toNat-192) s=q at h
     rcases q with _ | ⟨x,q⟩
     ·simp [listS] at h
     ·have:=bodyP_le hk
      simp only [listS] at h
      generalize itemsP p x.length x=g at h
      rcases g with _ | g
      ·simp at h
      ·simp at h; rw [← h.2]; simp; omega
theorem Only.grown {may : Nat→Prop} {B : Nat} {W W' : World} {row : Option Nat} (hg:W.grownBy W' row) (hrow:∀ k,row=some k→B≤k) (hs:B≤W.heap.size) : Only may B W W':=
 ⟨hg.os,hg.tape,hg.output,hg.size,fun k hk _=>hg.block k (by omega) (fun e=>by have:=hrow k e.symm; omega)⟩
def ItR (g:Nat) (w:World) (r:Option (Fo×List UInt8)) (e:Ending) (w' : World) : Prop:=
 Only (fun k=>k=g) w.heap.size w w'∧match r with
  | some (f,s)=>(∃ (x:It) (v:Value),f=x.fo .nil∧e=.returned v∧ItV (fun k=>w.heap.size≤k∧k<w'.heap.size) x v w')∧Rd g s w'
  | none=>e=.panicked boom
def ItsR (g:Nat) (w:World) (r:Option Fo) (e:Ending) (w' : World) : Prop:=
 Only (fun k=>k=g) w.heap.size w w'∧match r with
  | some f=>∃ v : Value,e=.returned v∧SlF (fun k=>w.heap.size≤k∧k<w'.heap.size) f v w'
  | none=>e=.panicked boom
def ItemC (d:Nat) : Prop:=∀ (g:Nat) (s:List UInt8) (n:Nat) (w:World),n+d=65→s.length≤100000→Rd g s w →
 Calls Tryz.prog 145 #[.pointer (some ⟨g,0,none⟩),.int .i64 n] w (ItR g w (itemP d s))
def ItemsC (d:Nat) : Prop:=∀ (g:Nat) (s:List UInt8) (n:Nat) (w:World),n+d=65→s.length≤100000→Rd g s w →
 Calls Tryz.prog 184 #[.pointer (some ⟨g,0,none⟩),.int .i64 n] w (ItsR g w (itemsP (itemP d) s.length s))
def ItsI (p:List UInt8→Option (Fo×List UInt8)) (g:Nat) (w:World) (s:List UInt8) (v:Value) (W:World) : Prop:=
 ∃ (f:Fo) (s' : List UInt8) (n:Nat),Rd g s' W∧s'.length≤n∧f.len+s'.length≤s.length∧Only (fun k=>k=g) w.heap.size w W ∧
  itemsP p s.length s=(itemsP p n s').map (f.app ·)∧Own w.heap.size f v W
def leftOf (g:Nat) (W:World) : Nat:=match W.cell? ⟨g,0,none⟩ with
 | some (.string x)=>x.size
 | _=>0
theorem leftOf_rd {g : Nat} {s : List UInt8} {W : World} (h:Rd g s W) : leftOf g W=s.length:=by
 unfold leftOf
 rw [cell_of h 0]
 exact str_size s
set_option maxRecDepth 100000 in
set_option maxHeartbeats 1000000 in
theorem items_c {d : Nat} (IH:ItemC d) : ItemsC d:=by
 intro g s n w hn hs h
 have hg : g<w.heap.size:=lt_of h
 have HI:=Lib.hid (show ItsI (itemP d) g w s (.slice none 0 0) w from⟨.nil,s,s.length,h,Nat.le_refl _,by simp [Fo.len],Only.refl _ _ _,by simp [Fo.app],Own.nil _ _⟩)
 have HC:=Lib.hid (fun t W ht hr=>IH g t n W hn ht hr)
 clear h IH
 go_enter Tryz.func184,Tryz.ntmps184
 go_wp2_with fail
 go_loopw [5] (fun v wr=>ItsI (itemP d) g w s v wr) (fun _ wr=>leftOf g wr)
 case atStart=>exact HI.out
 case round=>
  clear HI
  obtain⟨f,s',m,hr,hm,hl,ho,he,hown⟩:=hrel
  rcases s' with _ | ⟨b,s'⟩
  ·have c0 : wr.cell? ⟨g,0,none⟩=some (.string ⟨#[]⟩):=cell_of hr 0
   have he2 : itemsP (itemP d) s.length s=some f:=by
    rw [he]
    rcases m with _ | m <;> simp [itemsP,Fo.app_nil]
   have HE:=Lib.hid (show ItsR g w (itemsP (itemP d) s.length s) (.returned u5) wr from by
     rw [he2]
     exact⟨ho,u5,rfl,hown.sl⟩)
   clear hr hm hl ho he hown he2
   go_wp2_with fail
   go_ret
   exact HE.out
  ·have c0 : wr.cell? ⟨g,0,none⟩=some (.string (str (b :: s'))):=cell_of hr 0
   have hne : (str (b :: s')).toList.isEmpty=false:=by rw [ByteArray.toList_eq]; rfl
   obtain⟨m,rfl⟩ : ∃ k,m=k+1:=⟨m-1,by simp at hm; omega⟩
   have HL:=Lib.hid (And.intro (leftOf_rd hr) (And.intro hm hl))
   have HQ:=Lib.hid (HC.out (b :: s') wr (by simp at hl ⊢; omega) hr)
   have HI:=Lib.hid (And.intro ho hown)
   clear hr hm hl ho hown
   cases hp : itemP d (b :: s') with
   | none=>
    rw [hp] at HQ
    have HE:=Lib.hid (show itemsP (itemP d) s.length s=none by rw [he]; simp [itemsP,hp])
    clear he hp HL
    generalize str (b :: s')=x at *
    go_wp2_with (go_at_call 145; refine HQ.out.mono ?_; rintro e w1 ⟨ho,rfl⟩; have HO:=Lib.hid ho; clear ho)
    refine⟨rfl,?_⟩
    rw [HE.out]
    exact⟨HI.out.1.thenO HO.out,rfl⟩
   | some q=>
    obtain⟨f1,r⟩:=q
    rw [hp] at HQ
    have hrl:=itemP_lt hp
    have HE:=Lib.hid (show itemsP (itemP d) s.length s=(itemsP (itemP d) m r).map ((f.app f1).app ·) by
      rw [he]
      simp only [itemsP,hp]
      cases itemsP (itemP d) m r <;> simp [Fo.app_assoc])
    have HR:=Lib.hid hrl
    clear he hp hrl
    generalize hx : str (b :: s')=x at *
    clear hx
    go_wp2_with (first
      | (go_at_call 145; refine HQ.out.mono ?_; rintro e w1 ⟨ho,⟨it,v,rfl,rfl,hv⟩,hr⟩; obtain⟨b2,t2,l2,rfl,hone,hcel⟩:=hv.cel; have HO:=Lib.hid ho; have HV:=Lib.hid (And.intro hone hcel); have HR1:=Lib.hid hr; clear ho hr hv hone hcel; clear HQ)
      | (at_builtin; refine wpList_append_item (by rfl) _ _ (by rfl) w.heap.size _ f it b2 t2 l2 (fun k=>wr.heap.size≤k∧k<w1.heap.size) (by rfl) (HI.out.2.later2 _ hg HO.out)
          (fun k hk=>⟨Nat.le_trans HI.out.1.size hk.1,Nat.lt_trans (show k<w1.heap.size from hk.2) (by simp),fun e=>absurd (HI.out.2.blk k e).2 (Nat.not_lt.2 hk.1)⟩) HV.out.1
          (HV.out.2.kept (fun k hk=>Below.heap_alloc _ _ _ hk.2) _ _) w1.heap.size (by rfl) (heap_alloc_new _ _) (Nat.le_trans HI.out.1.size (Nat.le_trans HO.out.size (by simp))) (by have:=HL.out.2.2; simp at this; omega) ?_; intro v2 w2 hown2 hgr hbl; have HG:=Lib.hid (And.intro hown2 hgr); clear hown2 hgr hbl))
    have hb:=HI.out.2.blk
    have hs1:=HI.out.1.size
    have hs2:=HO.out.size
    have hrd : Rd g r w2:=by
     refine (HG.out.2.block g (by simp; omega) (fun e=>?_)).trans ((Below.heap_alloc _ _ _ (by omega)).trans HR1.out)
     have:=(hb g e.symm).1
     omega
    have hl1:=HL.out
    have hl2:=HR.out
    simp only [List.length_cons] at hl1 hl2
    refine⟨⟨f.app (it.fo .nil),r,m,hrd,by omega,?_,?_,HE.out,HG.out.1⟩,?_⟩
    ·rw [Fo.len_app,show (it.fo .nil).len=1 by cases it <;> rfl]; omega
    ·refine ((HI.out.1.thenO HO.out).alloc (by omega) _).trans (Only.grown HG.out.2 (fun k e=>(hb k e).1) (by simp; omega))
    ·rw [leftOf_rd hrd,hl1.1]; omega
end Go.Proofs.YtekoaheiapddiaaGreat
end
