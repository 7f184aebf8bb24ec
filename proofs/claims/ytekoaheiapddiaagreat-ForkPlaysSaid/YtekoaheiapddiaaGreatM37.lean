/- Merged: Go. -/
import Derived.Test.YtekoaheiapddiaaGreatM36
section
set_option maxRecDepth 100000
namespace Go.Proofs.YtekoaheiapddiaaGreat.Dz
open Go.ChangeShapes Go.WideShapes Go.ChangeAt Go.RowKit Go.Deep Go.Joins
theorem reach_val : reachBytes=140737488351232:=rfl
theorem cellsU8' : Tryz.prog.cellsOf 5=1:=by kernel_rfl
theorem cellsBool' : Tryz.prog.cellsOf 4=1:=by kernel_rfl
section
variable {H : Type} {enc : TypeId×Value→H} {w : World} {base : Nat} {held : Bool}
theorem told_of (m:Nat) (cs:List Value) (d:DataW H) (p:List MemPlace) (hl:cs.length=14) (h:DataW.trod enc Tryz.prog w base (fun _=>true) held m 104 cs=some (d,p)) (hz:∀ x∈d.weights Tryz.prog 104,x≤reachBytes) :
  ∃ u : ToldP,u.Ok∧cs=(toldCells u).toList:=by
 obtain⟨xs,k,_,hxy,_,hxl,hfs⟩:=DataW.trod_struct Tryz.underlying104 h
 match xs,hxl,cs,hl with
 | [y0,y1,y2,y3,y4,y5],_,[v0,v1,v2,v3,v4,v5,v6,v7,v8,v9,v10,v11,v12,v13],_=>
  have g0:=hfs 0 _ rfl
  have g1:=hfs 1 _ rfl
  have g2:=hfs 2 _ rfl
  have g3:=hfs 3 _ rfl
  have g4:=hfs 4 _ rfl
  have g5:=hfs 5 _ rfl
  simp [cellsU64,cellsAcc,cellsWord,cellsU8',cellsBool',cellsStr] at g0 g1 g2 g3 g4 g5
  simp only [Prod.mk.injEq] at hxy
  obtain⟨n0,e0,_,w0⟩:=DataW.trod_int Tryz.underlying41 g0
  obtain⟨n0,rfl,b0⟩:=u64_of w0
  obtain⟨a1,a2,d3,d2,d1,d0,s,q0,q1,q2,q3,q4,q5,ed,_,hk,hd,_⟩:=trd_account ⟨k,g1⟩
  obtain⟨m2,f3,f2,f1,f0,r0,r1,r2,r3,_,_,hd2⟩:=trd_word ⟨k,g2⟩
  obtain⟨n3,e3,_,w3⟩:=DataW.trod_int Tryz.underlying5 g3
  obtain⟨n3,rfl,b3⟩:=u8_of w3
  obtain⟨bb,e4,_⟩:=DataW.trod_bool Tryz.underlying4 g4
  obtain⟨s5,e5,_,_⟩:=DataW.trod_string Tryz.underlying9 g5
  have hmem : s.data.toList.length∈d.weights Tryz.prog 104:=by
   rw [hxy.1]
   simp [DataW.weights,Tryz.underlying104,Tryz.underlying82,DataW.weightsEach,ed]
  have hs:=hz _ hmem
  rw [reach_val] at hs
  obtain⟨rfl,rfl,rfl,rfl⟩:=dig_eq hd
  obtain⟨rfl,rfl,rfl,rfl⟩:=dig_eq hd2
  simp at e0 e3 e4 e5
  subst e0 q0 q1 q2 q3 q4 q5 r0 r1 r2 r3 e3 e4 e5
  exact⟨⟨n0,a1,a2,s.data.toList,m2,n3,bb,s5.data.toList⟩,⟨b0,hk,hd.lt,by show s.data.toList.length≤_; omega,hd2.lt,b3⟩,by simp [toldCells,str_of]⟩
theorem bytes_told : 0<Tryz.prog.bytesOf 104:=of_decide_eq_true (by kernel_rfl)
theorem cells_told : Tryz.prog.cellsOf 104=14:=by kernel_rfl
theorem bytes_deed9 : 0<Tryz.prog.bytesOf 45:=of_decide_eq_true (by kernel_rfl)
theorem cells_deed9 : Tryz.prog.cellsOf 45=4:=by kernel_rfl
theorem cells_tolds9 : Tryz.prog.cellsOf 23=1:=by kernel_rfl
instance : Inhabited ToldP:=⟨⟨0,0,0,[],0,0,false,[]⟩⟩
instance : Inhabited Dd:=⟨⟨0,0,0,[],none,0⟩⟩
theorem open_tolds9 {fuel : Nat} {cs : List Value} {d : DataW H} {p : List MemPlace} (h:DataW.trod enc Tryz.prog w base (fun _=>true) held fuel 23 cs=some (d,p)) (hz:∀ x∈d.weights Tryz.prog 23,x≤reachBytes) :
  ∃ (pa:Option Addr) (pc:Nat) (l:List ToldP),cs=[.slice pa l.length pc]∧Tolds w pa l∧l.length≤9000000000000000000:=by
 obtain⟨pa,pc,l,e,hR,hl⟩:=open_rowsT Tryz.underlying23 cells_told (by omega) bytes_told (fun u : ToldP=>(toldCells u).toList) ToldP.Ok h hz told_of
 rw [reach_val] at hl
 refine⟨pa,pc,l,e,?_,by omega⟩
 rcases hR with hR | ⟨g,o,e1,e2,hR⟩
 ·exact Or.inl hR
 ·exact Or.inr ⟨g,o,e1,e2,fun i u hu=>⟨(hR i u hu).1,fun j hj=>by rw [(hR i u hu).2 j hj]; simp⟩⟩
theorem deed9_of (m:Nat) (cs:List Value) (d:DataW H) (p:List MemPlace) (hl:cs.length=4) (h:DataW.trod enc Tryz.prog w base (fun _=>true) held m 45 cs=some (d,p)) (hz:∀ x∈d.weights Tryz.prog 45,x≤reachBytes) :
  ∃ u : Dd,u.Ok w∧cs=(deedC u.k u.a u.s u.pa u.l.length u.pc).toList:=by
 obtain⟨xs,k,_,hxy,_,hxl,hfs⟩:=DataW.trod_struct Tryz.underlying45 h
 match xs,hxl,cs,hl with
 | [y0,y1,y2,(d3,p3)],_,[v0,v1,v2,v3],_=>
  have g0:=hfs 0 _ rfl
  have g1:=hfs 1 _ rfl
  have g2:=hfs 2 _ rfl
  have g3:=hfs 3 _ rfl
  simp [cellsU8',cells_tolds9] at g0 g1 g2 g3
  simp only [Prod.mk.injEq] at hxy
  obtain⟨n0,e0,_,w0⟩:=DataW.trod_int Tryz.underlying5 g0
  obtain⟨n0,rfl,b0⟩:=u8_of w0
  obtain⟨n1,e1,_,w1⟩:=DataW.trod_int Tryz.underlying5 g1
  obtain⟨n1,rfl,b1⟩:=u8_of w1
  obtain⟨n2,e2,_,w2⟩:=DataW.trod_int Tryz.underlying5 g2
  obtain⟨n2,rfl,b2⟩:=u8_of w2
  obtain⟨pa,pc,l,e3,hT,hl⟩:=open_tolds9 g3 (fun x hx=>hz x (by
    rw [hxy.1]
    simp [DataW.weights,Tryz.underlying45,DataW.weightsEach,hx]))
  simp at e0 e1 e2 e3
  subst e0 e1 e2 e3
  exact⟨⟨n0,n1,n2,l,pa,pc⟩,⟨b0,b1,b2,hl,hT⟩,rfl⟩
theorem open_deeds9 {fuel : Nat} {cs : List Value} {d : DataW H} {p : List MemPlace} (h:DataW.trod enc Tryz.prog w base (fun _=>true) held fuel 24 cs=some (d,p)) (hz:∀ x∈d.weights Tryz.prog 24,x≤reachBytes) :
  ∃ (pa:Option Addr) (pc:Nat) (l:List Dd),cs=[.slice pa l.length pc]∧DeedsIs w pa l∧l.length≤9000000000000000000:=by
 obtain⟨pa,pc,l,e,hR,hl⟩:=open_rowsT Tryz.underlying24 cells_deed9 (by omega) bytes_deed9 (fun u : Dd=>(deedC u.k u.a u.s u.pa u.l.length u.pc).toList) (Dd.Ok w) h hz deed9_of
 rw [reach_val] at hl
 refine⟨pa,pc,l,e,?_,by omega⟩
 rcases hR with hR | ⟨g,o,e1,e2,hR⟩
 ·exact Or.inl hR
 ·exact Or.inr ⟨g,o,e1,e2,fun i u hu=>⟨(hR i u hu).1,fun j hj=>by rw [(hR i u hu).2 j hj]; simp⟩⟩
end
end Go.Proofs.YtekoaheiapddiaaGreat.Dz
end
