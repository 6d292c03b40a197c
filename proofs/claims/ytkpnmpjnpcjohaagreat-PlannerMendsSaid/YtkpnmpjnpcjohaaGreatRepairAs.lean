import Derived.Test.YtkpnmpjnpcjohaaGreatRepairMaths
import Derived.Test.YtkpnmpjnpcjohaaGreatCertMakesP
import Derived.Test.YtkpnmpjnpcjohaaGreatRoutePCost
import Derived.Test.YtkpnmpjnpcjohaaGreatPlanPWiths
set_option linter.unusedSimpArgs false
set_option linter.unusedVariables false
set_option maxHeartbeats 16000000
set_option maxRecDepth 100000
namespace Go.Proofs.YtkpnmpjnpcjohaaGreat
open ChangeShapes WideShapes ChangeAt RowKit Mem FleetMath PlanMath Rec
namespace RepairW
open RepairMath
def i_i(w:World)(r:Option RSt)(e:Ending)(w':World):Prop:=
 match r with
 |none=>e=.returned (.tuple #[.slice none 0 0,.int .i64 0,.int .i64 0,.int .i64 1])∧Below w.heap.size w w'
 |some s=>∃B c l,e=.returned (.tuple #[.slice B s.out.length c,.int .i64 (s.steps:Int),.int .i64 (s.passes:Int),.int .i64 0])∧Below w.heap.size w w'∧Plns w' w'.heap.size B s.out.length l∧l.map (·.rt)=s.out∧s.out.length≤c
end RepairW
namespace RepairW
open GeoMath
theorem g_X{o:Oper}{a:Act}{u:World}{x y:Operand}{b off n c k:Nat}(h:o.op=.indexAddr 34 x y)(hx:a.eval x=.slice (some ⟨b,off,none⟩) n c)(hy:a.eval y=.int .i64 k)(hk:k<n)(hn:n≤9223372036854775807):
 (execOp a.eval o).run Tryz.prog u=.ok (.value (.pointer (some ⟨b,off+k*6,none⟩))) u:=by
 obtain⟨ρ,hρ⟩:∃ρ,a.eval=ρ:=⟨_,rfl⟩;rw[hρ]at hx hy ⊢;have hk1:(k:Int)<(n:Int):=by omega
 unfold execOp;rw[h];simp[go_sem,hx,hy,hk1]
theorem k_7{u:World}{b i:Nat}{d:Drv}(h:u.cell? ⟨b,i,none⟩=some (.int .i64 d.id)∧u.cell? ⟨b,i+1,none⟩=some (.int .i64 d.room)∧u.cell? ⟨b,i+2,none⟩=some (.int .i64 d.home)∧u.cell? ⟨b,i+3,none⟩=some (.int .i64 d.win.fr)∧u.cell? ⟨b,i+4,none⟩=some (.int .i64 d.win.to)∧u.cell? ⟨b,i+5,none⟩=some (.bool d.retired)):(Instr.loadAt 33 (.pointer (some ⟨b,i,none⟩))).run Tryz.prog u=.ok (drvV d) u:=by
 obtain⟨h0,h1,h2,h3,h4,h5⟩:=h;simp[go_sem,h0,h1,h2,h3,h4,h5]
theorem c_A(T:TypeId){u:World}{p:Addr}{A:Option Addr}{n c:Nat}(hT:T=34∨T=40∨T=39)(h:u.cell? p=some (.slice A n c)):(Instr.loadAt T (.pointer (some p))).run Tryz.prog u=.ok (.slice A n c) u:=by
 rcases hT with rfl|rfl|rfl<;>simp[go_sem,h]
theorem ins_call4{P:Program}{o:Oper}{a:Act}{u:World}{f:Nat}{ts:Array TypeId}{x1 x2 x3 x4:Operand}{v1 v2 v3 v4:Value}(h:o.op=.call {callee:=.value (.func f),args:=#[x1,x2,x3,x4],argTypes:=ts })(h1:a.eval x1=v1)(h2:a.eval x2=v2)(h3:a.eval x3=v3)(h4:a.eval x4=v4)
 (hf:(callFunc f #[v1,v2,v3,v4]).run P u=.ok (.enter f #[v1,v2,v3,v4]) u):(execOp a.eval o).run P u=.ok (.enter f #[v1,v2,v3,v4]) u:=by
 have hf':a.eval (.func f)=.func (.func f) #[] #[]:=rfl;obtain⟨ρ,hρ⟩:∃ρ,a.eval=ρ:=⟨_,rfl⟩;rw[hρ]at h1 h2 h3 h4 hf' ⊢;unfold execOp;rw[h];simp[go_sem,hf',h1,h2,h3,h4,hf]
end RepairW
namespace RepairW
open GeoMath CertMath Geo Span Deal Route Plan Cert
abbrev rfV(q A:Option Addr)(n c:Nat)(A2:Option Addr)(n2 c2:Nat):Value:=.agg #[.pointer q,.slice A n c,.slice A2 n2 c2]
def RfBox(u:World)(g:Nat)(q A:Option Addr)(n c:Nat)(A2:Option Addr)(n2 c2:Nat):Prop:=Blk u g 142 [.pointer q,.slice A n c,.slice A2 n2 c2]
theorem RfBox.below{u u':World}{g:Nat}{q A A2:Option Addr}{n c n2 c2:Nat}(h:RfBox u g q A n c A2 n2 c2)(hb:Below u.heap.size u u'):RfBox u' g q A n c A2 n2 c2:=Blk.below h hb (Blk.lt h)
theorem RfBox.cells{u:World}{g:Nat}{q A A2:Option Addr}{n c n2 c2:Nat}(h:RfBox u g q A n c A2 n2 c2):u.cell? ⟨g,0,none⟩=some (.pointer q)∧u.cell? ⟨g,1,none⟩=some (.slice A n c)∧u.cell? ⟨g,2,none⟩=some (.slice A2 n2 c2):=
 ⟨Blk.cell h rfl,Blk.cell h rfl,Blk.cell h rfl⟩
theorem RfBox.new(w:World)(q A:Option Addr)(n c:Nat)(A2:Option Addr)(n2 c2:Nat):RfBox (w.alloc (.cells #[.pointer q,.slice A n c,.slice A2 n2 c2] 142)) w.heap.size q A n c A2 n2 c2:=Blk.new w _ _
theorem k_8{u:World}{g:Nat}{q A A2:Option Addr}{n c n2 c2:Nat}(h:RfBox u g q A n c A2 n2 c2):(Instr.loadAt 142 (.pointer (some ⟨g,0,none⟩))).run Tryz.prog u=.ok (rfV q A n c A2 n2 c2) u:=by
 obtain⟨h0,h1,h2⟩:=h.cells;simp[go_sem,h0,h1,h2]
section
variable {o : Oper} {a : Act} {u : World} {x : Operand}
theorem l_1{g:Nat}(h:o.op=.fieldAddr 142 x 0)(hp:a.eval x=.pointer (some ⟨g,0,none⟩)):(execOp a.eval o).run Tryz.prog u=.ok (.value (.pointer (some ⟨g,0,none⟩))) u:=a_H h hp (by simp[go_sem])
theorem i_j{g:Nat}(h:o.op=.fieldAddr 142 x 1)(hp:a.eval x=.pointer (some ⟨g,0,none⟩)):(execOp a.eval o).run Tryz.prog u=.ok (.value (.pointer (some ⟨g,1,none⟩))) u:=a_H h hp (by simp[go_sem])
theorem l_2{g:Nat}(h:o.op=.fieldAddr 142 x 2)(hp:a.eval x=.pointer (some ⟨g,0,none⟩)):(execOp a.eval o).run Tryz.prog u=.ok (.value (.pointer (some ⟨g,2,none⟩))) u:=a_H h hp (by simp[go_sem])
theorem p_Y{P:Program}{f:Nat}{v:Value}(h:o.op=.makeFunc (.func f) #[] #[x])(hx:a.eval x=v):(execOp a.eval o).run P u=.ok (.value (.func (.func f) #[] #[v])) u:=by
 obtain⟨ρ,hρ⟩:∃ρ,a.eval=ρ:=⟨_,rfl⟩;rw[hρ]at hx ⊢;unfold execOp;rw[h];simp[go_sem,hx]
end
theorem run_load_mp{u:World}{p:Addr}{q:Option Addr}(h:u.cell? p=some (.pointer q)):(Instr.loadAt 22 (.pointer (some p))).run Tryz.prog u=.ok (.pointer q) u:=by simp[go_sem,h]
theorem i_k{u:World}{g:Nat}{a0 a1 a2 a3 a4 a5:Value}(h:Blk u g 33 [a0,a1,a2,a3,a4,a5])(d:Drv):(Instr.storeAt 33 (.pointer (some ⟨g,0,none⟩)) (drvV d)).run Tryz.prog u=.ok () (putD u g d):=by
 have c0:=h.cell (i:=0) rfl;have c1:=h.cell (i:=1) rfl;have c2:=h.cell (i:=2) rfl;have c3:=h.cell (i:=3) rfl;have c4:=h.cell (i:=4) rfl;have c5:=h.cell (i:=5) rfl;have hff:=h.free;have hcs:=a_c g;have hfs:=a_d;simp[go_sem,c0,c1,c2,c3,c4,c5,hff,hcs,hfs]
theorem n_y(p:Drv)(b:Nat)(x:Int)(w:World)(hb:Blk w b 3 [.int .i64 x]):
 Calls Tryz.prog 198 #[drvV p,.pointer (some ⟨b,0,none⟩)] w (fun e w'=>e=.returned (.bool (p.id==x))∧Below w.heap.size w w'):=by
 have h1:=hb.below ((Below.refl _ _).alloc (Nat.le_refl _) (.cells #[.int .i64 p.id,.int .i64 p.room,.int .i64 p.home,.int .i64 p.win.fr,.int .i64 p.win.to,.bool p.retired] 33)) hb.lt;have c0:=h1.cell (i:=0) rfl;clear h1 hb;go_enter Tryz.func198,Tryz.ntmps198;go_wp2
 go_ret;exact⟨rfl,(Below.refl _ _).alloc (Nat.le_refl _) _⟩
theorem n_z(A:Option Addr)(n c:Nat)(l:List Drv)(b:Nat)(x0:Int)(w:World)(hl:Drvs w w.heap.size A n l)(hb:Blk w b 3 [.int .i64 x0]):
 Calls Tryz.prog 197 #[.slice A n c,.func (.func 198) #[] #[.pointer (some ⟨b,0,none⟩)]] w (fun e w'=>e=.returned (.int .i64 (b_J l x0 0))∧Below w.heap.size w w'):=by
 have hm:=Recs.le hl;have HI:=Lib.hid hl;have HL:=Lib.hid hl.length;have HBX:=Lib.hid hb;clear hl hb;go_enter Tryz.func197,Tryz.ntmps197;go_wp2_with fail
 go_loopw [8] (fun iv wr=>∃k:Nat,k≤n∧iv=.int .i64 k∧Hid (Below w.heap.size w wr)∧Hid (b_J (l.drop k) x0 k=b_J l x0 0)) (fun iv _=>n-(intOf iv).toNat)
 case atStart=>exact⟨0,Nat.zero_le _,rfl,Below.refl _ _,Lib.hid rfl⟩
 case round=>
  obtain⟨k,hk,rfl,HB,HK⟩:=hrel;by_cases hlt:k<n
  ·obtain⟨bb,off,x,rfl,hbb,ho,hdr,c0,c1,c2,c3,c4,c5⟩:=Drvs.at_ (Recs.keep HI.out HB.out) hlt
   have HK1:=HK.out;rw[hdr,d_J]at HK1;have HBW:Hid (Blk wr b 3 [.int .i64 x0]):=HBX.out.below HB.out HBX.out.lt;have HC:=Lib.hid (n_y x b x0);by_cases hid:x.id=x0
   ·rw[if_pos hid]at HK1
    have HF:=Lib.hid HK1;have e1:(x.id==x0)=true:=by simpa using hid
    rw[e1]at HC;clear hid HK HK1 ho hdr;go_wp2_with fail
    refine(HC.out _ (by exact HBW.out)).mono ?_;rintro e w' ⟨rfl,hb2⟩;have HB2:=Lib.hid (HB.out.trans (hb2.mono HB.out.size));clear hb2 c0 c1 c2 c3 c4 c5;go_wp2_with fail
    go_ret;exact⟨a_5 (by rw[HF.out]),HB2.out⟩
   ·rw[if_neg hid]at HK1
    have HF:=Lib.hid HK1;have e1:(x.id==x0)=false:=by simpa using hid
    rw[e1]at HC;clear hid HK HK1 ho hdr;go_wp2_with fail
    refine(HC.out _ (by exact HBW.out)).mono ?_;rintro e w' ⟨rfl,hb2⟩;have HB2:=Lib.hid (HB.out.trans (hb2.mono HB.out.size));clear hb2 c0 c1 c2 c3 c4 c5;go_wp2_with fail
    go_roundw
    case rel=>exact⟨k+1,by omega,by go_num,HB2,HF⟩
    case measure=>simp[intOf];omega
  ·have HF:Hid (-1=b_J l x0 0):=by
    have h:=HK.out;rw[List.drop_of_length_le (by have:=HL.out;omega)]at h;exact h
   clear HK;go_wp2_with fail
   go_ret;exact⟨a_5 (by rw[← HF.out]),HB.out⟩
structure RD(w:World)(q A:Option Addr)(n c:Nat)(A2:Option Addr)(n2 c2:Nat)(id:Int)(u:World):Prop where
 old:Below w.heap.size w u
 box:RfBox u w.heap.size q A n c A2 n2 c2
 num:Blk u (w.heap.size+1) 3 [.int .i64 id]
 res:Blk u (w.heap.size+2) 33 [.int .i64 0,.int .i64 0,.int .i64 0,.int .i64 0,.int .i64 0,.bool false]
theorem RD.next{w u u':World}{q A A2:Option Addr}{n c n2 c2:Nat}{id:Int}(h:RD w q A n c A2 n2 c2 id u)(hb:Below u.heap.size u u'):RD w q A n c A2 n2 c2 id u':=⟨h.old.trans (hb.mono h.old.size),h.box.below hb,h.num.below hb h.num.lt,h.res.below hb h.res.lt⟩
theorem RD.start(w:World)(q A:Option Addr)(n c:Nat)(A2:Option Addr)(n2 c2:Nat)(id:Int):RD w q A n c A2 n2 c2 id (((w.alloc (.cells #[.pointer q,.slice A n c,.slice A2 n2 c2] 142)).alloc (.cells #[.int .i64 id] 3)).alloc (.cells #[.int .i64 0,.int .i64 0,.int .i64 0,.int .i64 0,.int .i64 0,.bool false] 33)):=by
 have b0:∀(u:World) (ob:Obj),Below u.heap.size u (u.alloc ob):=fun u ob=>(Below.refl _ _).alloc (Nat.le_refl _) _;have f0:=RfBox.new w q A n c A2 n2 c2;obtain⟨w1,h1⟩:∃u,w.alloc (.cells #[.pointer q,.slice A n c,.slice A2 n2 c2] 142)=u:=⟨_,rfl⟩;have z1:w1.heap.size=w.heap.size+1:=by rw[← h1];simp
 have o1:Below w.heap.size w w1:=by rw[← h1];exact b0 _ _
 rw[h1]at f0 ⊢;have f1:Blk (w1.alloc (.cells #[.int .i64 id] 3)) w1.heap.size 3 [.int .i64 id]:=Blk.new w1 _ _;rw[z1]at f1;obtain⟨w2,h2⟩:∃u,w1.alloc (.cells #[.int .i64 id] 3)=u:=⟨_,rfl⟩;have z2:w2.heap.size=w.heap.size+2:=by rw[← h2];simp[z1]
 have o2:Below w1.heap.size w1 w2:=by rw[← h2];exact b0 _ _
 rw[h2]at f1 ⊢;have f2:Blk (w2.alloc (.cells #[.int .i64 0,.int .i64 0,.int .i64 0,.int .i64 0,.int .i64 0,.bool false] 33)) w2.heap.size 33 [.int .i64 0,.int .i64 0,.int .i64 0,.int .i64 0,.int .i64 0,.bool false]:=Blk.new w2 _ _;rw[z2]at f2;have o3:Below w2.heap.size w2 (w2.alloc (.cells #[.int .i64 0,.int .i64 0,.int .i64 0,.int .i64 0,.int .i64 0,.bool false] 33)):=b0 _ _;exact⟨(o1.trans (o2.mono (by omega))).trans (o3.mono (by omega)),(f0.below o2).below o3,f1.below o3 f1.lt,f2⟩
theorem p_Z(q A:Option Addr)(n c:Nat)(A2:Option Addr)(n2 c2:Nat)(l:List Drv)(id:Int)(d:Drv)(w:World)(hl:Drvs w w.heap.size A n l)(hr:a_o l id=some d):
 Calls Tryz.prog 145 #[rfV q A n c A2 n2 c2,.int .i64 id] w (a_y w (drvV d)):=by
 have hm:=Recs.le hl;have HI:=Lib.hid hl;have hlen:=hl.length
 obtain⟨i,hi,hiv⟩:∃(i:Nat),l[i]?=some d∧b_J l id 0=(i:Int):=by
  rcases f_x l id with⟨h1,_⟩|⟨i,d2,h1,h2,h3⟩
  ·rw[hr]at h1;cases h1
  ·rw[hr]at h2;injection h2 with h2;subst h2;exact⟨i,h1,h3⟩
 have hin:i<n:=by have:=(List.getElem?_eq_some_iff.1 hi).1;omega
 have HIV:=Lib.hid hiv;have HII:=Lib.hid hi;obtain⟨db,doff,_,hA,-⟩:=Drvs.at_ hl hin;subst hA;clear hl hr hiv hi hlen;have HS:=Lib.hid (RD.start w q (some ⟨db,doff,none⟩) n c A2 n2 c2 id);go_enter Tryz.func145,Tryz.ntmps145;go_upto_region 1 with fail
 simp only[World.size_alloc,Nat.add_assoc,Nat.reduceAdd];obtain⟨X,hX⟩:∃u,(((w.alloc (.cells #[.pointer q,.slice (some ⟨db,doff,none⟩) n c,.slice A2 n2 c2] 142)).alloc (.cells #[.int .i64 id] 3)).alloc (.cells #[.int .i64 0,.int .i64 0,.int .i64 0,.int .i64 0,.int .i64 0,.bool false] 33))=u:=⟨_,rfl⟩;rw[hX]at HS ⊢;clear hX
 have HC:Hid (∀ u,Below X.heap.size X u→(u.cell? ⟨db,doff+i*6,none⟩=some (.int .i64 d.id)∧u.cell? ⟨db,doff+i*6+1,none⟩=some (.int .i64 d.room)∧u.cell? ⟨db,doff+i*6+2,none⟩=some (.int .i64 d.home)∧u.cell? ⟨db,doff+i*6+3,none⟩=some (.int .i64 d.win.fr)∧u.cell? ⟨db,doff+i*6+4,none⟩=some (.int .i64 d.win.to)∧u.cell? ⟨db,doff+i*6+5,none⟩=some (.bool d.retired))):=fun u hu=>by
  obtain⟨_,_,d',e0,_,h1,_,c0,c1,c2,c3,c4,c5⟩:=Drvs.at_ (Recs.keep HI.out (HS.out.next hu).old) hin;injection e0 with e0;injection e0 with e1 e2;subst e1;subst e2;rw[HII.out]at h1;injection h1 with h1;subst h1;exact⟨c0,c1,c2,c3,c4,c5⟩
 have HK:Hid (∀ u,Below X.heap.size X u→Calls Tryz.prog 197 #[.slice (some ⟨db,doff,none⟩) n c,.func (.func 198) #[] #[.pointer (some ⟨w.heap.size+1,0,none⟩)]] u fun en u'=>en=.returned (.int .i64 ((i:Nat):Int))∧Below u.heap.size u u'):=fun u hu=>by
  have h:=HS.out.next hu;have:=n_z (some ⟨db,doff,none⟩) n c l (w.heap.size+1) id u (Recs.more (Recs.keep HI.out h.old) h.old.size) h.num;rw[HIV.out]at this;exact this
 refine d_F (l:=[_,_,_,_,_,_,_,_]) (o:=_) rfl (valRF [5,6,7,8,9,10,11,12] [.pointer (some ⟨w.heap.size,1,none⟩),.slice (some ⟨db,doff,none⟩) n c,.pointer (some ⟨w.heap.size,1,none⟩),.slice (some ⟨db,doff,none⟩) n c,.func (.func 198) #[] #[.pointer (some ⟨w.heap.size+1,0,none⟩)],.int .i64 ((i:Nat):Int),.pointer (some ⟨db,doff+i*6,none⟩),drvV d]) (by kernel_rfl) (by kernel_rfl) (by kernel_rfl) (fun _ _=>rfl) (by kernel_rfl) (by kernel_rfl) valRF.mon ?_ rfl ?_
 ·refine⟨?_,?_,?_,?_,?_,?_,?_,?_,trivial⟩
  ·exact valRF.pureStep rfl 5 rfl rfl (by simp) _ rfl fun listed a u D hI hr hn=>i_j rfl (hI.out 2 (by kernel_rfl))
  ·exact valRF.pureStep rfl 6 rfl rfl (by simp) _ rfl fun listed a u D hI hr hn=>a_f rfl (valRF.val hI hr hn 0 (by kernel_rfl) rfl rfl) (c_A _ (.inl rfl) (HS.out.next (OneR.below_drew hI.old)).box.cells.2.1)
  ·exact valRF.pureStep rfl 7 rfl rfl (by simp) _ rfl fun listed a u D hI hr hn=>i_j rfl (hI.out 2 (by kernel_rfl))
  ·exact valRF.pureStep rfl 8 rfl rfl (by simp) _ rfl fun listed a u D hI hr hn=>a_f rfl (valRF.val hI hr hn 2 (by kernel_rfl) rfl rfl) (c_A _ (.inl rfl) (HS.out.next (OneR.below_drew hI.old)).box.cells.2.1)
  ·exact valRF.pureStep rfl 9 rfl rfl (by simp) _ rfl fun listed a u D hI hr hn=>p_Y rfl (hI.out 3 (by kernel_rfl))
  ·exact valRF.callStep rfl 10 rfl rfl (by simp) _ rfl fun listed a u D hI hr hn=>⟨_,_,b_5 rfl (valRF.val hI hr hn 3 (by kernel_rfl) rfl rfl) (valRF.val hI hr hn 4 (by kernel_rfl) rfl rfl) (by simp[go_sem]),HK.out _ (OneR.below_drew hI.old)⟩
  ·exact valRF.pureStep rfl 11 rfl rfl (by simp) _ rfl fun listed a u D hI hr hn=>g_X rfl (valRF.val hI hr hn 1 (by kernel_rfl) rfl rfl) (valRF.val hI hr hn 5 (by kernel_rfl) rfl rfl) hin hm
  ·exact valRF.pureStep rfl 12 rfl rfl (by simp) _ rfl fun listed a u D hI hr hn=>a_f rfl (valRF.val hI hr hn 6 (by kernel_rfl) rfl rfl) (k_7 (HC.out _ (OneR.below_drew hI.old)))
 ·intro listed a u D hI hall hr hn K hK
  have e12:a.tmps.getD 12 undef=drvV d:=valRF.val hI hr hn 7 (by kernel_rfl) rfl rfl;have e4:a.tmps.getD 4 undef=.pointer (some ⟨w.heap.size+2,0,none⟩):=hI.out 4 (by kernel_rfl);have HS5:=Lib.hid (HS.out.next (OneR.below_drew hI.old));have HRS:=Lib.hid (DBox.cells (c_j HS5.out.res d));have HBR:=Lib.hid (b_D HS5.out.old (show w.heap.size≤w.heap.size+2 by omega) d);have hl:=hI.fill [5,6,7,8,9,10,11,12] (by kernel_rfl);refine e_Z rfl (b_m rfl e4 e12 (i_k HS5.out.res d)) (hK _ _ ?_);clear hI hall hr hn hK HK HC HS HS5 e4 e12;obtain⟨σ,hσ⟩:∃σ:Nat→Value,∀t,a.tmps.getD t undef=σ t:=⟨_,fun _=>rfl⟩;simp only[hσ]at hl;clear hσ;simp only[List.foldl_cons,List.foldl_nil,List.setIfInBounds_toArray,List.set_cons_zero,List.set_cons_succ]at hl;subst hl;obtain⟨w6,hw6⟩:∃v,putD u (w.heap.size+2) d=v:=⟨_,rfl⟩;rw[hw6]at HRS HBR ⊢;clear hw6;go_wp2_with fail
  refine bodyPost_ret (v:=drvV d) ?_ rfl ⟨rfl,HBR.out⟩;obtain⟨r0,r1,r2,r3,r4,r5⟩:=HRS.out;simp[results,Tryz.results145,go_sem,r0,r1,r2,r3,r4,r5]
end RepairW
namespace RepairW
open GeoMath CertMath AuditMath InsertMath RepairMath Geo Span Deal Route Plan Cert Go.Proofs.YtkpnmpjnpcjohaaGreat.Insert
theorem k_9{m:Option Mp}{ds:List Drv}{os:List FleetMath.Ord}{p:List Rte}{cs:List (List Vis)}{fk:Nat}{fe:Int}(h:b_K m ds os p=(cs,fk,fe)):
 (fe=0∧optV (a_z m ds os p)=.tuple #[.int .i64 (b_a m ds os p),.bool true])∨(fe≠0∧optV (a_z m ds os p)=.tuple #[.int .i64 0,.bool false]):=by
 unfold a_z;rw[h];by_cases he:fe=0
 ·exact .inl ⟨he,by rw[if_pos he];rfl⟩
 ·exact .inr ⟨he,by rw[if_neg he];rfl⟩
theorem s_g(base:Nat)(q:Option Addr)(m:Option Mp)(A:Option Addr)(n c:Nat)(ds:List Drv)(A2:Option Addr)(n2 c2:Nat)(os:List FleetMath.Ord)(A3:Option Addr)(n3 c3:Nat)(l:List RM)(mc:List (List Vis))(mk:Nat)(me:Int)(w:World)(hnc:n≤c)(hnc2:n2≤c2)
 (h:MapP w 92 base (.pointer q) m) (hd:Drvs w w.heap.size A n ds) (ho:Ords w w.heap.size A2 n2 os) (hl:Plns w w.heap.size A3 n3 l) (hr:b_K m ds os (l.map (·.rt))=(mc,mk,me)):
 Calls Tryz.prog 50 #[.pointer q,.slice A n c,.slice A2 n2 c2,.slice A3 n3 c3] w fun en u'=>∃B n c,en=.returned (.tuple #[.slice B n c,faultV mk me])∧Below w.heap.size w u':=by
 refine(f_N base (.pointer q) m A n c ds A2 n2 c2 os A3 n3 c3 l w hnc hnc2 h hd ho hl).mono ?_;rintro en u' ⟨v,l,rfl,hm⟩;rw[hr]at hm ⊢;obtain⟨B,c,rfl⟩:=hm.new.own.slice;exact⟨B,_,c,rfl,hm.new.old⟩
theorem g_Y(b:Int)(w:World):Calls Tryz.prog 141 #[.int .i64 b] w fun e w'=>e=.returned (.bool (decide (0≤b∧b≤100000)))∧w'=w:=by
 go_enter Tryz.func141,Tryz.ntmps141;by_cases h0:0≤b
 ·go_wp2
  go_ret;exact⟨by simp[h0],rfl⟩
 ·go_wp2
  go_ret;exact⟨by simp;omega,rfl⟩
theorem e_e(base:Nat)(q:Option Addr)(m:Option Mp)(A:Option Addr)(n c:Nat)(ds:List Drv)(A2:Option Addr)(n2 c2:Nat)(os:List FleetMath.Ord)(A3:Option Addr)(n3 c3:Nat)(l:List RM)(w:World)(hnc:n≤c)(hnc2:n2≤c2)
 (h:MapP w 92 base (.pointer q) m) (hd:Drvs w w.heap.size A n ds) (ho:Ords w w.heap.size A2 n2 os) (hl:Plns w w.heap.size A3 n3 l):
 Calls Tryz.prog 81 #[rfV q A n c A2 n2 c2,.slice A3 n3 c3] w (a_y w (optV (a_z m ds os (l.map (·.rt))))):=by
 have hm:=Recs.le hl.rows;have HD:=Lib.hid hd;have HO:=Lib.hid ho;have HP:=Lib.hid hl;have HL:=Lib.hid hl.length;have HM:=Lib.hid h;obtain⟨⟨mc,mk,me⟩,hMK⟩:∃M,b_K m ds os (l.map (·.rt))=M:=⟨_,rfl⟩;have HMK:=Lib.hid hMK;have htold:=k_9 hMK;have HB0:Hid (Below w.heap.size w (w.alloc (.cells #[.pointer q,.slice A n c,.slice A2 n2 c2] 142))):=(Below.refl _ _).alloc (Nat.le_refl _) _;have HF0:=Lib.hid (RfBox.new w q A n c A2 n2 c2);obtain⟨f0,f1,f2⟩:=HF0.out.cells;clear h hd ho hl hMK;rcases htold with⟨hme,htv⟩|⟨hme,htv⟩
 case inr=>
  rw[htv];have hme':=Lib.hid hme;clear htv hme;go_enter Tryz.func81,Tryz.ntmps81;go_wp2_with fail
  refine(s_g base q m A n c ds A2 n2 c2 os A3 n3 c3 l mc mk me _ hnc hnc2 (by exact HM.out.keep HB0.out) (by exact Recs.more (Recs.keep HD.out HB0.out) HB0.out.size) (by exact Recs.more (Recs.keep HO.out HB0.out) HB0.out.size) (by exact(HP.out.keep HB0.out).more HB0.out.size) HMK.out).mono ?_;rintro e z1 ⟨B1,n1,c1,rfl,hb1⟩;have HB1:Hid (Below w.heap.size w (z1.alloc (.cells #[.int .i64 (mk:Int),.int .i64 me] 108))):=HB0.out.trans (((hb1.mono HB0.out.size)).trans (((Below.refl _ _).alloc (Nat.le_refl _) _).mono (Nat.le_trans HB0.out.size hb1.size)));have HF1:Hid (RfBox (z1.alloc (.cells #[.int .i64 (mk:Int),.int .i64 me] 108)) w.heap.size q A n c A2 n2 c2):=(HF0.out.below hb1).below ((Below.refl _ _).alloc (Nat.le_refl _) _);have F1:Hid (Blk (z1.alloc (.cells #[.int .i64 (mk:Int),.int .i64 me] 108)) z1.heap.size 108 [.int .i64 (mk:Int),.int .i64 me]):=Blk.new z1 _ _;clear hb1 HB0 HF0 f0 f1 f2;go_upto_region 2 with fail
  obtain⟨g1,hg1⟩:∃g,z1.heap.size=g:=⟨_,rfl⟩;obtain⟨X,hX⟩:∃u,(z1.alloc (.cells #[.int .i64 (mk:Int),.int .i64 me] 108))=u:=⟨_,rfl⟩;rw[hg1,hX]at F1;rw[hX]at HB1 HF1;rw[hg1,hX];clear hg1 hX;have k0:=Blk.cell (i:=0) F1.out rfl;have k1:=Blk.cell (i:=1) F1.out rfl;go_wp2_with fail
  refine(pgood_v mk me false _ (by simpa using hme'.out)).mono ?_;rintro e z2 ⟨rfl,hb2⟩;have HB2:Hid (Below w.heap.size w z2):=HB1.out.trans (hb2.mono HB1.out.size);have HF3:Hid (RfBox z2 w.heap.size q A n c A2 n2 c2):=HF1.out.below hb2;clear hb2 HB1 HF1 F1 k0 k1;go_wp2_with fail
  refine bodyPost_ret (v:=.tuple #[.int .i64 0,.bool false]) ?_ rfl ⟨rfl,HB2.out⟩;simp[results,Tryz.results81,go_sem]
 obtain⟨Z,hZ⟩:∃z,b_a m ds os (l.map (·.rt))=z:=⟨_,rfl⟩;rw[hZ]at htv;rw[htv];have HZ:=Lib.hid hZ;subst hme;have hgood:=make_zero.1 (show(b_K m ds os (l.map (·.rt))).2.2=0 by rw[HMK.out]);obtain⟨m',_,_,_,hrp,_,_⟩:=a_K hgood.1;have HG:=Lib.hid hgood.2;have HRP:=Lib.hid hrp;obtain⟨G,hGq⟩:∃g,g_C m ds os (l.map (·.rt))=g:=⟨_,rfl⟩;have HGQ:=Lib.hid hGq;have HG0:Hid (G 0=0):=by show _=_;rw[← hGq];exact p_9
 have HGE:Hid (G n3=Z):=by show _=_;rw[← hGq,←HZ.out];exact r_R (by rw[List.length_map,HL.out];exact Nat.le_refl _)
 have HGB:Hid (∀ k,0≤G k∧G k≤800000000):=by show ∀k,_;intro k;rw[← hGq];exact n_L (near HM.out) HRP.out k
 clear hZ htv hgood hrp hGq;go_enter Tryz.func81,Tryz.ntmps81;go_wp2_with fail
 refine(s_g base q m A n c ds A2 n2 c2 os A3 n3 c3 l mc mk 0 _ hnc hnc2 (by exact HM.out.keep HB0.out) (by exact Recs.more (Recs.keep HD.out HB0.out) HB0.out.size) (by exact Recs.more (Recs.keep HO.out HB0.out) HB0.out.size) (by exact(HP.out.keep HB0.out).more HB0.out.size) HMK.out).mono ?_;rintro e z1 ⟨B1,n1,c1,rfl,hb1⟩;have HB1:Hid (Below w.heap.size w (z1.alloc (.cells #[.int .i64 (mk:Int),.int .i64 0] 108))):=HB0.out.trans (((hb1.mono HB0.out.size)).trans (((Below.refl _ _).alloc (Nat.le_refl _) _).mono (Nat.le_trans HB0.out.size hb1.size)));have HF1:Hid (RfBox (z1.alloc (.cells #[.int .i64 (mk:Int),.int .i64 0] 108)) w.heap.size q A n c A2 n2 c2):=(HF0.out.below hb1).below ((Below.refl _ _).alloc (Nat.le_refl _) _);have F1:Hid (Blk (z1.alloc (.cells #[.int .i64 (mk:Int),.int .i64 0] 108)) z1.heap.size 108 [.int .i64 (mk:Int),.int .i64 0]):=Blk.new z1 _ _;clear hb1 HB0 HF0 f0 f1 f2;go_upto_region 2 with fail
 obtain⟨g1,hg1⟩:∃g,z1.heap.size=g:=⟨_,rfl⟩;obtain⟨X,hX⟩:∃u,(z1.alloc (.cells #[.int .i64 (mk:Int),.int .i64 0] 108))=u:=⟨_,rfl⟩;rw[hg1,hX]at F1;rw[hX]at HB1 HF1;rw[hg1,hX];clear hg1 hX;have k0:=Blk.cell (i:=0) F1.out rfl;have k1:=Blk.cell (i:=1) F1.out rfl;go_wp2_with fail
 refine(pgood_v mk 0 true _ (by rfl)).mono ?_;rintro e z2 ⟨rfl,hb2⟩;have HB2:Hid (Below w.heap.size w z2):=HB1.out.trans (hb2.mono HB1.out.size);have HF3:Hid (RfBox z2 w.heap.size q A n c A2 n2 c2):=HF1.out.below hb2;clear hb2 HB1 HF1 F1 k0 k1;obtain⟨g0,hg0⟩:∃g,w.heap.size=g:=⟨_,rfl⟩;have HG0':=Lib.hid hg0;rw[hg0]at HF3;go_wp2_with fail
 clear hg0;go_loopw [8,29] (fun sv iv wr=>∃k:Nat,k≤n3∧sv=.int .i64 (G k)∧iv=.int .i64 (k:Int)∧Hid (Below z2.heap.size z2 wr)) (fun _ iv _=>n3-(intOf iv).toNat)
 case atStart=>exact⟨0,Nat.zero_le _,by rw[HG0.out],rfl,Below.refl _ _⟩
 case round=>
  obtain⟨k,hk,rfl,rfl,HB⟩:=hrel;have HBW:Hid (Below w.heap.size w wr):=HB2.out.trans (HB.out.mono HB2.out.size);by_cases hlt:k<n3
  case neg=>
   have hke:k=n3:=by omega
   subst hke;have hGE:=HGE.out;rw[hGE];clear hGE;go_wp2_with fail
   refine bodyPost_ret (v:=.tuple #[.int .i64 Z,.bool true]) ?_ rfl ⟨rfl,HBW.out⟩;simp[results,Tryz.results81,go_sem]
  have hkk:(k:Int)<(n3:Int):=by omega
  obtain⟨pb,off,x,hA3,_,hx,_,r0,r1,r2,hst,hxc⟩:=(HP.out.keep HBW.out).at_ hlt;subst hA3;have HST:=Lib.hid (HP.out.each x (List.mem_of_getElem? hx)).1;have HP1:Hid ((l.map (·.rt))[k]?=some x.rt):=by show _=_;rw[List.getElem?_map,hx];rfl
  obtain⟨d,HDO,HCA⟩:∃(d:Drv),Hid (a_o ds x.rt.drv=some d)∧Hid (∃ ca,cost m d os x.rt.stops=some ca):=by
   obtain⟨d,h1,h5⟩:=HG.out x.rt (List.mem_of_getElem? HP1.out);exact⟨d,h1,f_U h5⟩
  obtain⟨ca,hca⟩:=HCA.out;have HBR:Hid (Below z2.heap.size z2 (wr.alloc (.cells #[.int .i64 x.rt.drv,.int .i64 x.rt.served,.slice x.a x.n x.c] 37))):=HB.out.alloc HB.out.size _;have HR2:Hid (RBox (wr.alloc (.cells #[.int .i64 x.rt.drv,.int .i64 x.rt.served,.slice x.a x.n x.c] 37)) wr.heap.size x):=Blk.new wr _ _;clear hx hst;go_upto_region 8 with fail
  clear r0 r1 r2;obtain⟨w2,hw2⟩:∃u,wr.alloc (.cells #[.int .i64 x.rt.drv,.int .i64 x.rt.served,.slice x.a x.n x.c] 37)=u:=⟨_,rfl⟩;obtain⟨gr,hgr⟩:∃g,wr.heap.size=g:=⟨_,rfl⟩;rw[hw2]at HBR HR2 ⊢;rw[hgr]at HR2 ⊢;clear hw2 hgr HB HBW;have HBW:Hid (Below w.heap.size w w2):=HB2.out.trans (HBR.out.mono HB2.out.size);have HF2:Hid (RfBox w2 g0 q A n c A2 n2 c2):=HF3.out.below HBR.out
  have HK0:Hid (∀ u,Below w2.heap.size w2 u→Calls Tryz.prog 145 #[rfV q A n c A2 n2 c2,.int .i64 x.rt.drv] u fun en u'=>en=.returned (drvV d)∧Below u.heap.size u u'):=fun u hu=>by
   have hou:=HBW.out.trans (hu.mono HBW.out.size);exact p_Z q A n c A2 n2 c2 ds x.rt.drv d u (Recs.more (Recs.keep HD.out hou) hou.size) HDO.out
  have HK1:Hid (∀ u,Below w2.heap.size w2 u→Calls Tryz.prog 144 #[.pointer q,drvV d,.slice A2 n2 c2,.slice x.a x.n x.c] u fun en u'=>en=.returned (.tuple #[.int .i64 ca,.bool true])∧Below u.heap.size u u'):=fun u hu=>by
   have hou:=HBW.out.trans (hu.mono HBW.out.size);have h1:=g_E base (.pointer q) m d A2 n2 c2 os x.a x.n x.c x.rt.stops u (HM.out.keep hou) (Recs.more (Recs.keep HO.out hou) hou.size) (Recs.more (Recs.keep HST.out hou) hou.size) hxc hnc2;rw[hca]at h1;exact h1
  have hsum:G k+ca=G (k+1):=by
   rw[← HGQ.out,q_a HP1.out,n_K HDO.out];unfold oldC;rw[hca];rfl
  have hbd:0≤ca∧ca≤100000000:=by
   obtain⟨_,_,_,_,h80,_⟩:=b_F (h_n hca);exact k_v (near HM.out) (by omega) hca
  have hw:IntKind.i64.wrap (G k+ca)=G (k+1):=by
   rw[IntWalk.i64_in _ (by have:=HGB.out k;omega)];exact hsum
  have HW:=Lib.hid hw;clear hca hsum hbd hw;go_cut [11,12]from 33 to 46 (fun av bv wx=>av=.int .i64 ca∧bv=.bool true∧Hid (Below w2.heap.size w2 wx))
  case first=>
   refine a_s (valRF [34,35,36,37,38,39,40,41,42,43,44,33,45,46,11,12] [.pointer (some ⟨g0,0,none⟩),.pointer q,rfV q A n c A2 n2 c2,.pointer (some ⟨gr,0,none⟩),.int .i64 x.rt.drv,drvV d,.pointer (some ⟨g0,2,none⟩),.slice A2 n2 c2,.pointer (some ⟨gr,2,none⟩),.slice x.a x.n x.c,.tuple #[.int .i64 ca,.bool true],.tuple #[.int .i64 ca,.bool true],.int .i64 ca,.bool true,.int .i64 ca,.bool true]) (by kernel_rfl) (by kernel_rfl) (by kernel_rfl) (fun _ _=>rfl) (by kernel_rfl) valRF.mon ?_ ?_
   ·refine⟨?_,?_,?_,?_,?_,?_,?_,?_,?_,?_,?_,?_,?_,?_,?_,?_,trivial⟩
    ·exact valRF.pureStep rfl 34 rfl rfl (by simp) _ rfl fun listed a u D hI hr hn=>l_1 rfl (hI.out 2 (by kernel_rfl))
    ·exact valRF.pureStep rfl 35 rfl rfl (by simp) _ rfl fun listed a u D hI hr hn=>a_f rfl (valRF.val hI hr hn 0 (by kernel_rfl) rfl rfl) (run_load_mp (RfBox.below HF2.out (OneR.below_drew hI.old)).cells.1)
    ·exact valRF.pureStep rfl 36 rfl rfl (by simp) _ rfl fun listed a u D hI hr hn=>a_f rfl (hI.out 2 (by kernel_rfl)) (k_8 (RfBox.below HF2.out (OneR.below_drew hI.old)))
    ·exact valRF.pureStep rfl 37 rfl rfl (by simp) _ rfl fun listed a u D hI hr hn=>s_I rfl (hI.out 10 (by kernel_rfl))
    ·exact valRF.pureStep rfl 38 rfl rfl (by simp) _ rfl fun listed a u D hI hr hn=>a_f rfl (valRF.val hI hr hn 3 (by kernel_rfl) rfl rfl) (c_y (RBox.below HR2.out (OneR.below_drew hI.old)).cells.1)
    ·exact valRF.callStep rfl 39 rfl rfl (by simp) _ rfl fun listed a u D hI hr hn=>⟨_,_,b_5 rfl (valRF.val hI hr hn 2 (by kernel_rfl) rfl rfl) (valRF.val hI hr hn 4 (by kernel_rfl) rfl rfl) (by simp[go_sem]),HK0.out _ (OneR.below_drew hI.old)⟩
    ·exact valRF.pureStep rfl 40 rfl rfl (by simp) _ rfl fun listed a u D hI hr hn=>l_2 rfl (hI.out 2 (by kernel_rfl))
    ·exact valRF.pureStep rfl 41 rfl rfl (by simp) _ rfl fun listed a u D hI hr hn=>a_f rfl (valRF.val hI hr hn 6 (by kernel_rfl) rfl rfl) (c_A _ (.inr (.inl rfl)) (RfBox.below HF2.out (OneR.below_drew hI.old)).cells.2.2)
    ·exact valRF.pureStep rfl 42 rfl rfl (by simp) _ rfl fun listed a u D hI hr hn=>s_J rfl (hI.out 10 (by kernel_rfl))
    ·exact valRF.pureStep rfl 43 rfl rfl (by simp) _ rfl fun listed a u D hI hr hn=>a_f rfl (valRF.val hI hr hn 8 (by kernel_rfl) rfl rfl) (e_b (RBox.below HR2.out (OneR.below_drew hI.old)).cells.2.2)
    ·exact valRF.callStep rfl 44 rfl rfl (by simp) _ rfl fun listed a u D hI hr hn=>⟨_,_,ins_call4 rfl (valRF.val hI hr hn 1 (by kernel_rfl) rfl rfl) (valRF.val hI hr hn 5 (by kernel_rfl) rfl rfl) (valRF.val hI hr hn 7 (by kernel_rfl) rfl rfl) (valRF.val hI hr hn 9 (by kernel_rfl) rfl rfl) (by simp[go_sem]),HK1.out _ (OneR.below_drew hI.old)⟩
    ·exact valRF.pureStep rfl 33 rfl rfl (by simp) _ rfl fun listed a u D hI hr hn=>a_a (.inl rfl) (valRF.val hI hr hn 10 (by kernel_rfl) rfl rfl)
    ·exact valRF.pureStep rfl 45 rfl rfl (by simp) _ rfl fun listed a u D hI hr hn=>a_6 rfl (valRF.val hI hr hn 11 (by kernel_rfl) rfl rfl) rfl
    ·exact valRF.pureStep rfl 46 rfl rfl (by simp) _ rfl fun listed a u D hI hr hn=>a_6 rfl (valRF.val hI hr hn 11 (by kernel_rfl) rfl rfl) rfl
    ·exact valRF.pureStep rfl 11 rfl rfl (by simp) _ rfl fun listed a u D hI hr hn=>a_a (.inr rfl) (valRF.val hI hr hn 12 (by kernel_rfl) rfl rfl)
    ·exact valRF.pureStep rfl 12 rfl rfl (by simp) _ rfl fun listed a u D hI hr hn=>a_a (.inr rfl) (valRF.val hI hr hn 13 (by kernel_rfl) rfl rfl)
   ·intro listed a u D hI hall
    have eR0:a.tmps.getD 11 undef=.int .i64 ca:=(hI.fact 14 ⟨hall 14 (by simp),fun k hk=>by cases hk⟩).1;have eR1:a.tmps.getD 12 undef=.bool true:=(hI.fact 15 ⟨hall 15 (by simp),fun k hk=>by cases hk⟩).1;have hold:=OneR.below_drew hI.old;have hl:=hI.fill [34,35,36,37,38,39,40,41,42,43,44,33,45,46,11,12] (by kernel_rfl);clear hI hall;obtain⟨σ,hσ⟩:∃σ:Nat→Value,∀t,a.tmps.getD t undef=σ t:=⟨_,fun _=>rfl⟩;simp only[hσ]at hl eR0 eR1;clear hσ;simp only[List.foldl_cons,List.foldl_nil,List.setIfInBounds_toArray,List.set_cons_zero,List.set_cons_succ,eR0,eR1]at hl;subst hl;go_wp2_with fail
    go_meet
    exact⟨rfl,rfl,hold⟩
  case rest=>
  obtain⟨rfl,rfl,hb6⟩:=hcut;obtain⟨w6,rfl⟩:∃u,u=wc:=⟨_,rfl⟩;have HB6:=Lib.hid (HBR.out.trans (hb6.out.mono HBR.out.size));have hw:=HW.out;clear HK0 HK1 hb6 HBR HBW HF2 HR2;go_wp2_with fail
  go_roundw
  case rel=>exact⟨k+1,by omega,by first|rw[hw]|(simp only[hw]),by go_num,HB6⟩
  case measure=>simp[intOf];omega
theorem ptotal_any(base:Nat)(pv:Value)(m:Option Mp)(A:Option Addr)(n c:Nat)(ds:List Drv)(A2:Option Addr)(n2 c2:Nat)(os:List FleetMath.Ord)(A3:Option Addr)(n3 c3:Nat)(l:List RM)(w:World)(hnc:n≤c)(hnc2:n2≤c2)
 (h:MapP w 92 base pv m) (hd:Drvs w w.heap.size A n ds) (ho:Ords w w.heap.size A2 n2 os) (hl:Plns w w.heap.size A3 n3 l):
 Calls Tryz.prog 33 #[pv,.slice A n c,.slice A2 n2 c2,.slice A3 n3 c3] w (a_y w (optV (a_z m ds os (l.map (·.rt))))):=by
 obtain⟨q,hq⟩:∃q,pv=.pointer q:=by
  rcases h with⟨rfl,_⟩|⟨_,_,_,rfl,_⟩
  ·exact⟨_,rfl⟩
  ·exact⟨_,rfl⟩
 subst hq;have HB0:Hid (Below w.heap.size w (w.alloc (.cells #[.pointer q,.slice A n c,.slice A2 n2 c2] 142))):=(Below.refl _ _).alloc (Nat.le_refl _) _;have HF0:=Lib.hid (RfBox.new w q A n c A2 n2 c2)
 have HC:Hid (∀ u,Below w.heap.size w u→Calls Tryz.prog 81 #[rfV q A n c A2 n2 c2,.slice A3 n3 c3] u (a_y u (optV (a_z m ds os (l.map (·.rt)))))):=fun u hu=>
  e_e base q m A n c ds A2 n2 c2 os A3 n3 c3 l u hnc hnc2 (h.keep hu) (Recs.more (Recs.keep hd hu) hu.size) (Recs.more (Recs.keep ho hu) hu.size) ((hl.keep hu).more hu.size)
 obtain⟨V,hV⟩:∃v,optV (a_z m ds os (l.map (·.rt)))=v:=⟨_,rfl⟩
 have hV2:∃a b,V=.tuple #[.int .i64 a,.bool b]:=by
  rw[← hV];cases a_z m ds os (l.map (·.rt))with
  |none=>exact⟨_,_,rfl⟩
  |some t=>exact⟨_,_,rfl⟩
 rw[hV]at HC ⊢;obtain⟨a,b,rfl⟩:=hV2;obtain⟨f0,f1,f2⟩:=HF0.out.cells;clear h hd ho hl hV;go_enter Tryz.func33,Tryz.ntmps33;go_wp2_with fail
 refine(HC.out _ (by exact HB0.out)).mono ?_;rintro e w1 ⟨rfl,hb⟩;have HB1:=Lib.hid (HB0.out.trans (hb.mono HB0.out.size));clear hb HB0 HF0 f0 f1 f2;go_wp2_with fail
 refine bodyPost_ret (v:=.tuple #[.int .i64 a,.bool b]) ?_ rfl ⟨rfl,HB1.out⟩;simp[results,Tryz.results33,go_sem]
end RepairW
namespace RepairW
open GeoMath CertMath RepairMath Geo Span Deal Route Plan Cert
def i_l(s:Spt):List Rte→Nat→Int
 |[],_=>-1
 |x::r,k=>if movR s x=true then(k:Int)else i_l s r (k+1)
theorem h_y(s:Spt)(x:Rte)(r:List Rte)(k:Nat):i_l s (x::r) k=if movR s x=true then(k:Int)else i_l s r (k+1):=rfl
theorem p_0(s:Spt)(l:List Rte)(k:Nat):decide (0≤i_l s l k)=l.any (movR s):=by
 induction l generalizing k with
 |nil=>rfl
 |cons x r ih=>
  rw[h_y,List.any_cons];by_cases h:movR s x=true
  ·rw[if_pos h,h,Bool.true_or];simp
  ·rw[if_neg h,ih (k+1),show movR s x=false by simpa using h,Bool.false_or]
theorem n_A(A:Option Addr)(n c:Nat)(x:Rte)(b:Nat)(s:Spt)(y:Int)(w:World)(hb:Blk w b 150 [.int .i64 s.drv,.int .i64 s.pick,.int .i64 s.drop,.int .i64 y]):
 Calls Tryz.prog 234 #[.agg #[.int .i64 x.drv,.int .i64 x.served,.slice A n c],.pointer (some ⟨b,0,none⟩)] w (fun e w'=>e=.returned (.bool (movR s x))∧Below w.heap.size w w'):=by
 obtain⟨xd,xs,xl⟩:=x;obtain⟨sd,sp,sq⟩:=s;have h1:=hb.below ((Below.refl _ _).alloc (Nat.le_refl _) (.cells #[.int .i64 xd,.int .i64 xs,.slice A n c] 37)) hb.lt;have c0:=h1.cell (i:=0) rfl;have c1:=h1.cell (i:=1) rfl;clear h1 hb;go_enter Tryz.func234,Tryz.ntmps234;by_cases h:xd=sd
 ·subst h
  go_wp2
  go_ret;exact⟨by simp[movR],(Below.refl _ _).alloc (Nat.le_refl _) _⟩
 ·go_wp2
  go_ret;exact⟨by simp[movR,h],(Below.refl _ _).alloc (Nat.le_refl _) _⟩
theorem l_a(A:Option Addr)(n c:Nat)(l:List RM)(b:Nat)(s:Spt)(y:Int)(w:World)(hl:Plns w w.heap.size A n l)(hb:Blk w b 150 [.int .i64 s.drv,.int .i64 s.pick,.int .i64 s.drop,.int .i64 y]):
 Calls Tryz.prog 154 #[.slice A n c,.func (.func 234) #[] #[.pointer (some ⟨b,0,none⟩)]] w (fun e w'=>e=.returned (.int .i64 (i_l s (l.map (·.rt)) 0))∧Below w.heap.size w w'):=by
 have hm:=Recs.le hl.rows;have HI:=Lib.hid hl;have HL:=Lib.hid hl.length;have HBX:=Lib.hid hb;clear hl hb;go_enter Tryz.func154,Tryz.ntmps154;go_wp2_with fail
 go_loopw [8] (fun iv wr=>∃k:Nat,k≤n∧iv=.int .i64 k∧Hid (Below w.heap.size w wr)∧Hid (i_l s ((l.drop k).map (·.rt)) k=i_l s (l.map (·.rt)) 0)) (fun iv _=>n-(intOf iv).toNat)
 case atStart=>exact⟨0,Nat.zero_le _,rfl,Below.refl _ _,Lib.hid rfl⟩
 case round=>
  obtain⟨k,hk,rfl,HB,HK⟩:=hrel;by_cases hlt:k<n
  ·obtain⟨bb,off,x,rfl,hbb,hx,hdr,c0,c1,c2,hst,_⟩:=(HI.out.keep HB.out).at_ hlt
   have HK1:=HK.out;rw[hdr,List.map_cons,h_y]at HK1;have HBW:Hid (Blk wr b 150 [.int .i64 s.drv,.int .i64 s.pick,.int .i64 s.drop,.int .i64 y]):=HBX.out.below HB.out HBX.out.lt;have HC:=Lib.hid (n_A x.a x.n x.c x.rt b s y);by_cases hid:movR s x.rt=true
   ·rw[if_pos hid]at HK1
    have HF:=Lib.hid HK1;rw[hid]at HC;clear hid HK HK1 hx hdr hst;go_wp2_with fail
    refine(HC.out _ (by exact HBW.out)).mono ?_;rintro e w' ⟨rfl,hb2⟩;have HB2:=Lib.hid (HB.out.trans (hb2.mono HB.out.size));clear hb2 c0 c1 c2;go_wp2_with fail
    go_ret;exact⟨a_5 (by rw[HF.out]),HB2.out⟩
   ·rw[if_neg hid]at HK1
    have HF:=Lib.hid HK1;rw[show movR s x.rt=false by simpa using hid]at HC;clear hid HK HK1 hx hdr hst;go_wp2_with fail
    refine(HC.out _ (by exact HBW.out)).mono ?_;rintro e w' ⟨rfl,hb2⟩;have HB2:=Lib.hid (HB.out.trans (hb2.mono HB.out.size));clear hb2 c0 c1 c2;go_wp2_with fail
    go_roundw
    case rel=>exact⟨k+1,by omega,by go_num,HB2,HF⟩
    case measure=>simp[intOf];omega
  ·have HF:Hid (-1=i_l s (l.map (·.rt)) 0):=by
    have h:=HK.out;rw[List.drop_of_length_le (by have:=HL.out;omega)]at h;exact h
   clear HK;go_wp2_with fail
   go_ret;exact⟨a_5 (by rw[← HF.out]),HB.out⟩
theorem l_b(A:Option Addr)(n c:Nat)(l:List RM)(b:Nat)(s:Spt)(y:Int)(r:Bool)(w:World)(hl:Plns w w.heap.size A n l)(hb:Blk w b 150 [.int .i64 s.drv,.int .i64 s.pick,.int .i64 s.drop,.int .i64 y])(hr:(l.map (·.rt)).any (movR s)=r):
 Calls Tryz.prog 233 #[.slice A n c,.func (.func 234) #[] #[.pointer (some ⟨b,0,none⟩)]] w (fun e w'=>e=.returned (.bool r)∧Below w.heap.size w w'):=by
 have HC:=Lib.hid (l_a A n c l b s y w hl hb);obtain⟨iv,hiv⟩:∃v,i_l s (l.map (·.rt)) 0=v:=⟨_,rfl⟩
 have hd:Hid (decide (0≤iv)=r):=by
  show _=_;rw[← hr,←hiv];exact p_0 s _ 0
 rw[hiv]at HC;clear hl hb hr hiv;go_enter Tryz.func233,Tryz.ntmps233;go_wp2_with fail
 refine HC.out.mono ?_;rintro e w' ⟨rfl,hb⟩;have HB:=Lib.hid hb;clear hb;go_wp2_with fail
 go_ret;exact⟨by rw[← hd.out];rfl,HB.out⟩
theorem i_m(A:Option Addr)(n c:Nat)(l:List RM)(o:Int)(r:Bool)(w:World)(hl:Plns w w.heap.size A n l)(hr:c_K (l.map (·.rt)) o=r):
 Calls Tryz.prog 195 #[.slice A n c,.int .i64 o] w (a_y w (.bool r)):=by
 have HI:=Lib.hid hl;obtain⟨z,hz⟩:∃z,b_b (l.map (·.rt)) o=z:=⟨_,rfl⟩;unfold c_K at hr;rw[hz]at hr;have HZ:=Lib.hid hz;have HF:=Lib.hid (d_N A n c l o w hl);rw[hz]at HF;clear hl hz;go_enter Tryz.func195,Tryz.ntmps195;have hmf:∀(fn:Fn) (first cap:Array Value) (w:World),(Instr.makeFunc fn first cap).run Tryz.prog w=.ok (.func fn first cap) w:=fun _ _ _ _=>rfl;cases z with
 |none=>
  simp only at hr;subst hr;go_wp2_with fail
  refine HF.out.mono ?_;rintro e w1 ⟨rfl,hb⟩;have HB1:=Lib.hid (hb.alloc hb.size (.cells #[.int .i64 0,.int .i64 0,.int .i64 0,.int .i64 0] 150));clear hb;simp only[d_T];go_wp2_with fail
  go_ret;exact⟨rfl,HB1.out⟩
 |some s=>
  simp only at hr;have HR:=Lib.hid hr;clear hr;go_wp2_with fail
  refine HF.out.mono ?_;rintro e w1 ⟨rfl,hb⟩;have HB1:=Lib.hid (hb.alloc hb.size (.cells #[.int .i64 s.drv,.int .i64 s.pick,.int .i64 s.drop,.int .i64 0] 150));have HS1:Hid (Blk (w1.alloc (.cells #[.int .i64 s.drv,.int .i64 s.pick,.int .i64 s.drop,.int .i64 0] 150)) w1.heap.size 150 [.int .i64 s.drv,.int .i64 s.pick,.int .i64 s.drop,.int .i64 0]):=Blk.new w1 _ _;clear hb;simp only[d_T];go_wp2_with fail
  refine(l_b A n c l w1.heap.size s 0 r _ (by exact(HI.out.keep HB1.out).more HB1.out.size) (by exact HS1.out) HR.out).mono ?_;rintro e w2 ⟨rfl,hb2⟩;have HB2:=Lib.hid (HB1.out.trans (hb2.mono HB1.out.size));clear hb2;go_wp2_with fail
  go_ret;exact⟨rfl,HB2.out⟩
end RepairW
end Go.Proofs.YtkpnmpjnpcjohaaGreat
