import Derived.Test.YtkpnmpjnpcjohaaGreatJoined13
set_option linter.unusedSimpArgs false
set_option linter.unusedVariables false
set_option maxHeartbeats 4000000
set_option maxRecDepth 100000
namespace Go.Proofs.YtkpnmpjnpcjohaaGreat
open ChangeShapes WideShapes ChangeAt RowKit Mem GeoMath FleetMath PlanMath CertMath Rec Geo Span Deal Route Plan
namespace Cert
def b_J:List Drv→Int→Nat→Int
 |[],_,_=>-1
 |x::r,id,k=>if x.id=id then(k:Int)else b_J r id (k+1)
theorem m_p(l:List Drv)(id:Int)(k:Nat):(l.find? (fun d=>decide (d.id=id))=none∧b_J l id k=-1)∨∃(i:Nat) (d:Drv),l[i]?=some d∧l.find? (fun d=>decide (d.id=id))=some d∧b_J l id k=((k+i:Nat):Int):=by
 induction l generalizing k with
 |nil=>exact .inl ⟨rfl,rfl⟩
 |cons x r ih=>
  by_cases h:x.id=id
  ·exact .inr ⟨0,x,rfl,by rw[List.find?_cons,decide_eq_true h],by rw[b_J,if_pos h];rfl⟩
  ·rw[b_J,if_neg h,List.find?_cons,decide_eq_false h]
   rcases ih (k+1)with⟨h1,h2⟩|⟨i,d,h1,h2,h3⟩
   ·exact .inl ⟨h1,h2⟩
   ·exact .inr ⟨i+1,d,h1,h2,by rw[h3];omega⟩
theorem f_x(l:List Drv)(id:Int):(a_o l id=none∧b_J l id 0=-1)∨∃(i:Nat) (d:Drv),l[i]?=some d∧a_o l id=some d∧b_J l id 0=(i:Int):=by
 rcases m_p l id 0 with⟨h1,h2⟩|⟨i,d,h1,h2,h3⟩
 ·exact .inl ⟨h1,h2⟩
 ·exact .inr ⟨i,d,h1,h2,by rw[h3,Nat.zero_add]⟩
theorem d_J(x:Drv)(l:List Drv)(id:Int)(k:Nat):b_J (x::l) id k=if x.id=id then(k:Int)else b_J l id (k+1):=rfl
theorem pdone_any(o:Drv)(b:Nat)(x:Int)(w:World)(hb:Blk w b 3 [.int .i64 x]):
 Calls Tryz.prog 218 #[drvV o,.pointer (some ⟨b,0,none⟩)] w (fun e w'=>e=.returned (.bool (o.id==x))∧Below w.heap.size w w'):=by
 have h1:=hb.below ((Below.refl _ _).alloc (Nat.le_refl _) (.cells #[.int .i64 o.id,.int .i64 o.room,.int .i64 o.home,.int .i64 o.win.fr,.int .i64 o.win.to,.bool o.retired] 33)) hb.lt;have c0:=h1.cell (i:=0) rfl;clear h1 hb;go_enter Tryz.func218,Tryz.ntmps218;go_wp2
 go_ret;exact⟨rfl,(Below.refl _ _).alloc (Nat.le_refl _) _⟩
theorem n_7(A:Option Addr)(n c:Nat)(l:List Drv)(b:Nat)(x:Int)(w:World)(hl:Drvs w w.heap.size A n l)(hb:Blk w b 3 [.int .i64 x]):
 Calls Tryz.prog 197 #[.slice A n c,.func (.func 218) #[] #[.pointer (some ⟨b,0,none⟩)]] w (fun e w'=>e=.returned (.int .i64 (b_J l x 0))∧Below w.heap.size w w'):=by
 have hm:=Recs.le hl;have HI:=Lib.hid hl;have HL:=Lib.hid hl.length;have HBX:=Lib.hid hb;clear hl hb;go_enter Tryz.func197,Tryz.ntmps197;go_wp2_with fail
 go_loopw [8] (fun iv wr=>∃k:Nat,k≤n∧iv=.int .i64 k∧Hid (Below w.heap.size w wr)∧Hid (b_J (l.drop k) x k=b_J l x 0)) (fun iv _=>n-(intOf iv).toNat)
 case atStart=>exact⟨0,Nat.zero_le _,rfl,Below.refl _ _,Lib.hid rfl⟩
 case round=>
  obtain⟨k,hk,rfl,HB,HK⟩:=hrel;by_cases hlt:k<n
  ·obtain⟨bb,off,o,rfl,hbb,ho,hdr,c0,c1,c2,c3,c4,c5⟩:=Drvs.at_ (Recs.keep HI.out HB.out) hlt
   have HK1:=HK.out;rw[hdr,d_J]at HK1;have HBW:Hid (Blk wr b 3 [.int .i64 x]):=HBX.out.below HB.out HBX.out.lt;have HC:=Lib.hid (pdone_any o b x);by_cases hid:o.id=x
   ·rw[if_pos hid]at HK1
    have HF:=Lib.hid HK1;have e1:(o.id==x)=true:=by simpa using hid
    rw[e1]at HC;clear hid HK HK1 ho hdr;go_wp2_with fail
    refine(HC.out _ (by exact HBW.out)).mono ?_;rintro e w' ⟨rfl,hb2⟩;have HB2:=Lib.hid (HB.out.trans (hb2.mono HB.out.size));clear hb2 c0 c1 c2 c3 c4 c5;go_wp2_with fail
    go_ret;exact⟨a_5 (by rw[HF.out]),HB2.out⟩
   ·rw[if_neg hid]at HK1
    have HF:=Lib.hid HK1;have e1:(o.id==x)=false:=by simpa using hid
    rw[e1]at HC;clear hid HK HK1 ho hdr;go_wp2_with fail
    refine(HC.out _ (by exact HBW.out)).mono ?_;rintro e w' ⟨rfl,hb2⟩;have HB2:=Lib.hid (HB.out.trans (hb2.mono HB.out.size));clear hb2 c0 c1 c2 c3 c4 c5;go_wp2_with fail
    go_roundw
    case rel=>exact⟨k+1,by omega,by go_num,HB2,HF⟩
    case measure=>simp[intOf];omega
  ·have HF:Hid (-1=b_J l x 0):=by
    have h:=HK.out;rw[List.drop_of_length_le (by have:=HL.out;omega)]at h;exact h
   clear HK;go_wp2_with fail
   go_ret;exact⟨a_5 (by rw[← HF.out]),HB.out⟩
def t_a:FleetMath.Ord:=⟨0,0,⟨0,⟨0,0⟩,0⟩,⟨0,⟨0,0⟩,0⟩⟩
def j_5:Option FleetMath.Ord→Value
 |none=>.tuple #[ordV t_a,.bool false]
 |some o=>.tuple #[ordV o,.bool true]
def b_T:List FleetMath.Ord→Int→Nat→Int
 |[],_,_=>-1
 |x::r,id,k=>if x.id=id then(k:Int)else b_T r id (k+1)
theorem e_M(l:List FleetMath.Ord)(id:Int)(k:Nat):(l.find? (fun d=>decide (d.id=id))=none∧b_T l id k=-1)∨∃(i:Nat) (d:FleetMath.Ord),l[i]?=some d∧l.find? (fun d=>decide (d.id=id))=some d∧b_T l id k=((k+i:Nat):Int):=by
 induction l generalizing k with
 |nil=>exact .inl ⟨rfl,rfl⟩
 |cons x r ih=>
  by_cases h:x.id=id
  ·exact .inr ⟨0,x,rfl,by rw[List.find?_cons,decide_eq_true h],by rw[b_T,if_pos h];rfl⟩
  ·rw[b_T,if_neg h,List.find?_cons,decide_eq_false h]
   rcases ih (k+1)with⟨h1,h2⟩|⟨i,d,h1,h2,h3⟩
   ·exact .inl ⟨h1,h2⟩
   ·exact .inr ⟨i+1,d,h1,h2,by rw[h3];omega⟩
theorem l_z(l:List FleetMath.Ord)(id:Int):(find l id=none∧b_T l id 0=-1)∨∃(i:Nat) (d:FleetMath.Ord),l[i]?=some d∧find l id=some d∧b_T l id 0=(i:Int):=by
 rcases e_M l id 0 with⟨h1,h2⟩|⟨i,d,h1,h2,h3⟩
 ·exact .inl ⟨h1,h2⟩
 ·exact .inr ⟨i,d,h1,h2,by rw[h3,Nat.zero_add]⟩
theorem c_T(x:FleetMath.Ord)(l:List FleetMath.Ord)(id:Int)(k:Nat):b_T (x::l) id k=if x.id=id then(k:Int)else b_T l id (k+1):=rfl
theorem n_8(o:FleetMath.Ord)(b:Nat)(x:Int)(w:World)(hb:Blk w b 3 [.int .i64 x]):
 Calls Tryz.prog 248 #[ordV o,.pointer (some ⟨b,0,none⟩)] w (fun e w'=>e=.returned (.bool (o.id==x))∧Below w.heap.size w w'):=by
 have h1:=hb.below ((Below.refl _ _).alloc (Nat.le_refl _) (.cells #[.int .i64 o.id,.int .i64 o.size,.int .i64 o.pick.place,.int .i64 o.pick.win.fr,.int .i64 o.pick.win.to,.int .i64 o.pick.serv,.int .i64 o.drop.place,.int .i64 o.drop.win.fr,.int .i64 o.drop.win.to,.int .i64 o.drop.serv] 31)) hb.lt;have c0:=h1.cell (i:=0) rfl;clear h1 hb;go_enter Tryz.func248,Tryz.ntmps248;go_wp2
 go_ret;exact⟨rfl,(Below.refl _ _).alloc (Nat.le_refl _) _⟩
theorem n_9(A:Option Addr)(n c:Nat)(l:List FleetMath.Ord)(b:Nat)(x:Int)(w:World)(hl:Ords w w.heap.size A n l)(hb:Blk w b 3 [.int .i64 x]):
 Calls Tryz.prog 228 #[.slice A n c,.func (.func 248) #[] #[.pointer (some ⟨b,0,none⟩)]] w (fun e w'=>e=.returned (.int .i64 (b_T l x 0))∧Below w.heap.size w w'):=by
 have hm:=Recs.le hl;have HI:=Lib.hid hl;have HL:=Lib.hid hl.length;have HBX:=Lib.hid hb;clear hl hb;go_enter Tryz.func228,Tryz.ntmps228;go_wp2_with fail
 go_loopw [8] (fun iv wr=>∃k:Nat,k≤n∧iv=.int .i64 k∧Hid (Below w.heap.size w wr)∧Hid (b_T (l.drop k) x k=b_T l x 0)) (fun iv _=>n-(intOf iv).toNat)
 case atStart=>exact⟨0,Nat.zero_le _,rfl,Below.refl _ _,Lib.hid rfl⟩
 case round=>
  obtain⟨k,hk,rfl,HB,HK⟩:=hrel;by_cases hlt:k<n
  ·obtain⟨bb,off,o,rfl,hbb,ho,hdr,c0,c1,c2,c3,c4,c5,c6,c7,c8,c9⟩:=Ords.at_ (Recs.keep HI.out HB.out) hlt
   have HK1:=HK.out;rw[hdr,c_T]at HK1;have HBW:Hid (Blk wr b 3 [.int .i64 x]):=HBX.out.below HB.out HBX.out.lt;have HC:=Lib.hid (n_8 o b x);by_cases hid:o.id=x
   ·rw[if_pos hid]at HK1
    have HF:=Lib.hid HK1;have e1:(o.id==x)=true:=by simpa using hid
    rw[e1]at HC;clear hid HK HK1 ho hdr;go_wp2_with fail
    refine(HC.out _ (by exact HBW.out)).mono ?_;rintro e w' ⟨rfl,hb2⟩;have HB2:=Lib.hid (HB.out.trans (hb2.mono HB.out.size));clear hb2 c0 c1 c2 c3 c4 c5 c6 c7 c8 c9;go_wp2_with fail
    go_ret;exact⟨a_5 (by rw[HF.out]),HB2.out⟩
   ·rw[if_neg hid]at HK1
    have HF:=Lib.hid HK1;have e1:(o.id==x)=false:=by simpa using hid
    rw[e1]at HC;clear hid HK HK1 ho hdr;go_wp2_with fail
    refine(HC.out _ (by exact HBW.out)).mono ?_;rintro e w' ⟨rfl,hb2⟩;have HB2:=Lib.hid (HB.out.trans (hb2.mono HB.out.size));clear hb2 c0 c1 c2 c3 c4 c5 c6 c7 c8 c9;go_wp2_with fail
    go_roundw
    case rel=>exact⟨k+1,by omega,by go_num,HB2,HF⟩
    case measure=>simp[intOf];omega
  ·have HF:Hid (-1=b_T l x 0):=by
    have h:=HK.out;rw[List.drop_of_length_le (by have:=HL.out;omega)]at h;exact h
   clear HK;go_wp2_with fail
   go_ret;exact⟨a_5 (by rw[← HF.out]),HB.out⟩
abbrev putD(u:World)(g:Nat)(d:Drv):World:=((((((u.setCell ⟨g,0,none⟩ (.int .i64 d.id)).setCell ⟨g,1,none⟩ (.int .i64 d.room)).setCell ⟨g,2,none⟩ (.int .i64 d.home)).setCell ⟨g,3,none⟩ (.int .i64 d.win.fr)).setCell ⟨g,4,none⟩ (.int .i64 d.win.to)).setCell ⟨g,5,none⟩ (.bool d.retired))
theorem c_j{u:World}{g:Nat}{a0 a1 a2 a3 a4 a5:Value}(h:Blk u g 33 [a0,a1,a2,a3,a4,a5])(d:Drv):DBox (putD u g d) g d:=((((((h.put 0 (.int .i64 d.id)).put 1 (.int .i64 d.room)).put 2 (.int .i64 d.home)).put 3 (.int .i64 d.win.fr)).put 4 (.int .i64 d.win.to)).put 5 (.bool d.retired))
theorem b_D{B:Nat}{w u:World}{g:Nat}(h:Below B w u)(hg:B≤g)(d:Drv):Below B w (putD u g d):=((((((h.setCell hg _).setCell hg _).setCell hg _).setCell hg _).setCell hg _).setCell hg _)
abbrev drv0:Drv:=⟨0,0,0,⟨0,0⟩,false⟩
theorem q_x(r:Option Drv):∃d ok,f_s r=.tuple #[drvV d,.bool ok]∧(ok=true→r=some d)∧(ok=false→r=none):=by
 cases r with
 |none=>exact⟨t_k,false,rfl,fun h=>(by cases h),fun _=>rfl⟩
 |some o=>exact⟨o,true,rfl,fun _=>rfl,fun h=>(by cases h)⟩
theorem d_1(A:Option Addr)(n c:Nat)(l:List Drv)(id:Int)(r:Option Drv)(w:World)(hl:Drvs w w.heap.size A n l)(hr:a_o l id=r):
 Calls Tryz.prog 165 #[.slice A n c,.int .i64 id] w fun e w'=>e=.returned (f_s r)∧Below w.heap.size w w':=by
 have hm:=Recs.le hl;have HI:=Lib.hid hl;have HR:=Lib.hid hr;have hlen:=hl.length;have hcase:=f_x l id;rw[hr]at hcase;obtain⟨iv,hiv⟩:∃v,b_J l id 0=v:=⟨_,rfl⟩;rw[hiv]at hcase;have HIV:=Lib.hid hiv;clear hl hr hiv;have HB0:Hid (Below w.heap.size w ((w.alloc (.cells #[.int .i64 id] 3)).alloc (.cells #[.int .i64 0,.int .i64 0,.int .i64 0,.int .i64 0,.int .i64 0,.bool false] 33))):=((Below.refl _ _).alloc (Nat.le_refl _) _).alloc (by simp) _;have HX0:Hid (Blk ((w.alloc (.cells #[.int .i64 id] 3)).alloc (.cells #[.int .i64 0,.int .i64 0,.int .i64 0,.int .i64 0,.int .i64 0,.bool false] 33)) w.heap.size 3 [.int .i64 id]):=Blk.below (Blk.new w 3 [.int .i64 id]) ((Below.refl _ _).alloc (Nat.le_refl _) _) (Blk.new w 3 [.int .i64 id]).lt
 have HY0:Hid (Blk ((w.alloc (.cells #[.int .i64 id] 3)).alloc (.cells #[.int .i64 0,.int .i64 0,.int .i64 0,.int .i64 0,.int .i64 0,.bool false] 33)) (w.heap.size+1) 33 [.int .i64 0,.int .i64 0,.int .i64 0,.int .i64 0,.int .i64 0,.bool false]):=by
  have h1:=Blk.new (w.alloc (.cells #[.int .i64 id] 3)) 33 [.int .i64 0,.int .i64 0,.int .i64 0,.int .i64 0,.int .i64 0,.bool false];rw[World.size_alloc]at h1;exact h1
 go_enter Tryz.func165,Tryz.ntmps165;have hmf:∀(fn:Fn) (first cap:Array Value) (w:World),(Instr.makeFunc fn first cap).run Tryz.prog w=.ok (.func fn first cap) w:=fun _ _ _ _=>rfl;go_wp2_with fail
 refine(n_7 A n c l w.heap.size id _ (by exact Recs.more (Recs.keep HI.out HB0.out) HB0.out.size) (by exact HX0.out)).mono ?_;rintro e w1 ⟨rfl,hb⟩;rw[HIV.out];have HB1:=Lib.hid (HB0.out.trans (hb.mono HB0.out.size));have HY1:Hid (Blk w1 (w.heap.size+1) 33 [.int .i64 0,.int .i64 0,.int .i64 0,.int .i64 0,.int .i64 0,.bool false]):=HY0.out.below hb HY0.out.lt;clear hb HB0 HX0 HY0 HIV;have hcs:=a_c (w.heap.size+1);have hfs:=a_d;have hff:=HY1.out.free;have x0:=HY1.out.cell (i:=0) rfl;have x1:=HY1.out.cell (i:=1) rfl;have x2:=HY1.out.cell (i:=2) rfl;have x3:=HY1.out.cell (i:=3) rfl;have x4:=HY1.out.cell (i:=4) rfl;have x5:=HY1.out.cell (i:=5) rfl;rcases hcase with⟨rfl,rfl⟩|⟨i,d,hi,rfl,rfl⟩
 ·have HRS:=Lib.hid (c_j HY1.out drv0).cells
  have HBR:=Lib.hid (b_D HB1.out (Nat.le_succ w.heap.size) drv0);clear hmf;go_wp2_with fail
  refine bodyPost_ret (v:=.tuple #[drvV drv0,.bool false]) ?_ rfl (by first|exact⟨rfl,HBR.out⟩|exact⟨rfl,HBR.out⟩);obtain⟨r0,r1,r2,r3,r4,r5⟩:=HRS.out;simp[results,Tryz.results165,go_sem,r0,r1,r2,r3,r4,r5]
 ·obtain⟨b,off,d2,rfl,hbb,hd2,hdr,c0,c1,c2,c3,c4,c5⟩:=Drvs.at_ (Recs.keep HI.out HB1.out) (i:=i) (by have:=(List.getElem?_eq_some_iff.1 hi).1;omega)
  have hin:(i:Int)<(n:Int):=by have:=(List.getElem?_eq_some_iff.1 hi).1;omega
  rw[hi]at hd2;injection hd2 with hd2;subst hd2;have HRS:=Lib.hid (c_j HY1.out d).cells;have HBR:=Lib.hid (b_D HB1.out (Nat.le_succ w.heap.size) d);clear hdr hi hmf;go_wp2_with fail
  refine bodyPost_ret (v:=.tuple #[drvV d,.bool true]) ?_ rfl ⟨rfl,HBR.out⟩;obtain⟨r0,r1,r2,r3,r4,r5⟩:=HRS.out;simp[results,Tryz.results165,go_sem,r0,r1,r2,r3,r4,r5]
theorem m_q(A:Option Addr)(n c:Nat)(l:List FleetMath.Ord)(id:Int)(r:Option FleetMath.Ord)(w:World)(hl:Ords w w.heap.size A n l)(hr:find l id=r):
 Calls Tryz.prog 226 #[.slice A n c,.int .i64 id] w fun e w'=>e=.returned (f_n r)∧Below w.heap.size w w':=by
 have hm:=Recs.le hl;have HI:=Lib.hid hl;have HR:=Lib.hid hr;have hlen:=hl.length;have hcase:=l_z l id;rw[hr]at hcase;obtain⟨iv,hiv⟩:∃v,b_T l id 0=v:=⟨_,rfl⟩;rw[hiv]at hcase;have HIV:=Lib.hid hiv;clear hl hr hiv;have HB0:Hid (Below w.heap.size w ((w.alloc (.cells #[.int .i64 id] 3)).alloc (.cells #[.int .i64 0,.int .i64 0,.int .i64 0,.int .i64 0,.int .i64 0,.int .i64 0,.int .i64 0,.int .i64 0,.int .i64 0,.int .i64 0] 31))):=((Below.refl _ _).alloc (Nat.le_refl _) _).alloc (by simp) _;have HX0:Hid (Blk ((w.alloc (.cells #[.int .i64 id] 3)).alloc (.cells #[.int .i64 0,.int .i64 0,.int .i64 0,.int .i64 0,.int .i64 0,.int .i64 0,.int .i64 0,.int .i64 0,.int .i64 0,.int .i64 0] 31)) w.heap.size 3 [.int .i64 id]):=Blk.below (Blk.new w 3 [.int .i64 id]) ((Below.refl _ _).alloc (Nat.le_refl _) _) (Blk.new w 3 [.int .i64 id]).lt
 have HY0:Hid (Blk ((w.alloc (.cells #[.int .i64 id] 3)).alloc (.cells #[.int .i64 0,.int .i64 0,.int .i64 0,.int .i64 0,.int .i64 0,.int .i64 0,.int .i64 0,.int .i64 0,.int .i64 0,.int .i64 0] 31)) (w.heap.size+1) 31 [.int .i64 0,.int .i64 0,.int .i64 0,.int .i64 0,.int .i64 0,.int .i64 0,.int .i64 0,.int .i64 0,.int .i64 0,.int .i64 0]):=by
  have h1:=Blk.new (w.alloc (.cells #[.int .i64 id] 3)) 31 [.int .i64 0,.int .i64 0,.int .i64 0,.int .i64 0,.int .i64 0,.int .i64 0,.int .i64 0,.int .i64 0,.int .i64 0,.int .i64 0];rw[World.size_alloc]at h1;exact h1
 go_enter Tryz.func226,Tryz.ntmps226;have hmf:∀(fn:Fn) (first cap:Array Value) (w:World),(Instr.makeFunc fn first cap).run Tryz.prog w=.ok (.func fn first cap) w:=fun _ _ _ _=>rfl;go_wp2_with fail
 refine(n_9 A n c l w.heap.size id _ (by exact Recs.more (Recs.keep HI.out HB0.out) HB0.out.size) (by exact HX0.out)).mono ?_;rintro e w1 ⟨rfl,hb⟩;rw[HIV.out];have HB1:=Lib.hid (HB0.out.trans (hb.mono HB0.out.size));have HY1:Hid (Blk w1 (w.heap.size+1) 31 [.int .i64 0,.int .i64 0,.int .i64 0,.int .i64 0,.int .i64 0,.int .i64 0,.int .i64 0,.int .i64 0,.int .i64 0,.int .i64 0]):=HY0.out.below hb HY0.out.lt;clear hb HB0 HX0 HY0 HIV;have hcs:=a_c (w.heap.size+1);have hfs:=a_d;have hff:=HY1.out.free;have x0:=HY1.out.cell (i:=0) rfl;have x1:=HY1.out.cell (i:=1) rfl;have x2:=HY1.out.cell (i:=2) rfl;have x3:=HY1.out.cell (i:=3) rfl;have x4:=HY1.out.cell (i:=4) rfl;have x5:=HY1.out.cell (i:=5) rfl;have x6:=HY1.out.cell (i:=6) rfl;have x7:=HY1.out.cell (i:=7) rfl;have x8:=HY1.out.cell (i:=8) rfl;have x9:=HY1.out.cell (i:=9) rfl;rcases hcase with⟨rfl,rfl⟩|⟨i,d,hi,rfl,rfl⟩
 ·have HRS:=Lib.hid (c_n HY1.out ord0).cells
  have HBR:=Lib.hid (b_t HB1.out (Nat.le_succ w.heap.size) ord0);clear hmf;go_wp2_with fail
  refine bodyPost_ret (v:=.tuple #[ordV ord0,.bool false]) ?_ rfl (by first|exact⟨rfl,HBR.out⟩|exact⟨rfl,HBR.out⟩);obtain⟨r0,r1,r2,r3,r4,r5,r6,r7,r8,r9⟩:=HRS.out;simp[results,Tryz.results226,go_sem,r0,r1,r2,r3,r4,r5,r6,r7,r8,r9]
 ·obtain⟨b,off,d2,rfl,hbb,hd2,hdr,c0,c1,c2,c3,c4,c5,c6,c7,c8,c9⟩:=Ords.at_ (Recs.keep HI.out HB1.out) (i:=i) (by have:=(List.getElem?_eq_some_iff.1 hi).1;omega)
  have hin:(i:Int)<(n:Int):=by have:=(List.getElem?_eq_some_iff.1 hi).1;omega
  rw[hi]at hd2;injection hd2 with hd2;subst hd2;have HRS:=Lib.hid (c_n HY1.out d).cells;have HBR:=Lib.hid (b_t HB1.out (Nat.le_succ w.heap.size) d);clear hdr hi hmf;go_wp2_with fail
  refine bodyPost_ret (v:=.tuple #[ordV d,.bool true]) ?_ rfl ⟨rfl,HBR.out⟩;obtain⟨r0,r1,r2,r3,r4,r5,r6,r7,r8,r9⟩:=HRS.out;simp[results,Tryz.results226,go_sem,r0,r1,r2,r3,r4,r5,r6,r7,r8,r9]
end Cert
end Go.Proofs.YtkpnmpjnpcjohaaGreat
