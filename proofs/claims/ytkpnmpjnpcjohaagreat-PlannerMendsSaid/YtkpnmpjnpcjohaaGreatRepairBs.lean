import Derived.Shelf.SlSortCmp.WholeK
import Derived.Test.YtkpnmpjnpcjohaaGreatProg
import Derived.Test.YtkpnmpjnpcjohaaGreatRepairAs
import Derived.Laws.CopyRow
import Derived.Test.YtkpnmpjnpcjohaaGreatInsertPs
import Derived.Maps.OwnIn
import Derived.Shelf.SlSortCmp.NoneTotal
set_option linter.unusedSimpArgs false
set_option linter.unusedVariables false
set_option maxHeartbeats 8000000
set_option maxRecDepth 100000
namespace Go.Proofs.YtkpnmpjnpcjohaaGreat
namespace RepairW
open Go.Proofs
open Shelf
def e_f:Go.Shelf.Ren:=⟨fun|6=>251|15=>147|14=>257|28=>208|29=>209|20=>258|21=>259|22=>260|23=>261|24=>262|25=>263|26=>264|27=>265|46=>266|47=>237|48=>238|49=>267|50=>268|57=>269|n=>n,fun|22=>40|24=>31|25=>101|3=>3|39=>215|0=>0|53=>269|55=>271|4=>4|46=>262|45=>261|50=>84|5=>5|9=>9|66=>298|70=>302|76=>315|77=>316|n=>n,fun|n=>n⟩
theorem p_1:Go.Proofs.SlLaysF0.n6 Tryz.prog e_f:={
 mixed:=by kernel_rfl
 f6:=⟨Tryz.f251.name,by decide,Tryz.func251.trans (congrArg some (by kernel_rfl))⟩
 f14:=⟨Tryz.f257.name,by decide,Tryz.func257.trans (congrArg some (by kernel_rfl))⟩
 f15:=Tryz.func147.trans (congrArg some (by kernel_rfl))
 f20:=⟨Tryz.f258.name,by decide,Tryz.func258.trans (congrArg some (by kernel_rfl))⟩
 f21:=⟨Tryz.f259.name,by decide,Tryz.func259.trans (congrArg some (by kernel_rfl))⟩
 f22:=⟨Tryz.f260.name,by decide,Tryz.func260.trans (congrArg some (by kernel_rfl))⟩
 f23:=⟨Tryz.f261.name,by decide,Tryz.func261.trans (congrArg some (by kernel_rfl))⟩
 f24:=⟨Tryz.f262.name,by decide,Tryz.func262.trans (congrArg some (by kernel_rfl))⟩
 f25:=⟨Tryz.f263.name,by decide,Tryz.func263.trans (congrArg some (by kernel_rfl))⟩
 f26:=⟨Tryz.f264.name,by decide,Tryz.func264.trans (congrArg some (by kernel_rfl))⟩
 f27:=⟨Tryz.f265.name,by decide,Tryz.func265.trans (congrArg some (by kernel_rfl))⟩
 f28:=Tryz.func208.trans (congrArg some (by kernel_rfl))
 f29:=Tryz.func209.trans (congrArg some (by kernel_rfl))
 f46:=⟨Tryz.f266.name,by decide,Tryz.func266.trans (congrArg some (by kernel_rfl))⟩
 f47:=Tryz.func237.trans (congrArg some (by kernel_rfl))
 f48:=Tryz.func238.trans (congrArg some (by kernel_rfl))
 f49:=⟨Tryz.f267.name,by decide,Tryz.func267.trans (congrArg some (by kernel_rfl))⟩
 f50:=⟨Tryz.f268.name,by decide,Tryz.func268.trans (congrArg some (by kernel_rfl))⟩
 f57:=⟨Tryz.f269.name,by decide,Tryz.func269.trans (congrArg some (by kernel_rfl))⟩
 t0:=Tryz.underlying0
 a0:=Tryz.isAgg0
 z0:=Tryz.sizeOf0
 v0:=Tryz.zeroValue0
 t3:=Tryz.underlying3
 a3:=Tryz.isAgg3
 z3:=Tryz.sizeOf3
 v3:=Tryz.zeroValue3
 t4:=Tryz.underlying4
 a4:=Tryz.isAgg4
 z4:=Tryz.sizeOf4
 v4:=Tryz.zeroValue4
 t5:=Tryz.underlying5
 a5:=Tryz.isAgg5
 z5:=Tryz.sizeOf5
 v5:=Tryz.zeroValue5
 t9:=Tryz.underlying9
 a9:=Tryz.isAgg9
 z9:=Tryz.sizeOf9
 v9:=Tryz.zeroValue9
 t22:=Tryz.underlying40
 a22:=Tryz.isAgg40
 z22:=Tryz.sizeOf40
 v22:=Tryz.zeroValue40
 t25:=Tryz.underlying101
 a25:=Tryz.isAgg101
 z25:=Tryz.sizeOf101
 v25:=Tryz.zeroValue101
 t39:=Tryz.underlying215
 a39:=Tryz.isAgg215
 z39:=Tryz.sizeOf215
 v39:=Tryz.zeroValue215
 t45:=Tryz.underlying261
 a45:=Tryz.isAgg261
 z45:=Tryz.sizeOf261
 v45:=Tryz.zeroValue261
 t46:=Tryz.underlying262
 a46:=Tryz.isAgg262
 z46:=Tryz.sizeOf262
 v46:=Tryz.zeroValue262
 t50:=Tryz.underlying84
 a50:=Tryz.isAgg84
 z50:=Tryz.sizeOf84
 v50:=Tryz.zeroValue84
 t53:=Tryz.underlying269
 a53:=Tryz.isAgg269
 z53:=Tryz.sizeOf269
 v53:=Tryz.zeroValue269
 t55:=Tryz.underlying271
 a55:=Tryz.isAgg271
 z55:=Tryz.sizeOf271
 v55:=Tryz.zeroValue271
 t66:=Tryz.underlying298
 a66:=Tryz.isAgg298
 z66:=Tryz.sizeOf298
 v66:=Tryz.zeroValue298
 t70:=Tryz.underlying302
 a70:=Tryz.isAgg302
 z70:=Tryz.sizeOf302
 v70:=Tryz.zeroValue302
 t76:=Tryz.underlying315
 a76:=Tryz.isAgg315
 z76:=Tryz.sizeOf315
 v76:=Tryz.zeroValue315
 t77:=Tryz.underlying316
 a77:=Tryz.isAgg316
 z77:=Tryz.sizeOf316
 v77:=Tryz.zeroValue316}
end RepairW
namespace RepairW
open ChangeShapes WideShapes ChangeAt RowKit Mem GeoMath FleetMath PlanMath CertMath InsertMath RepairMath Rec Geo Span Deal Route Plan Cert
theorem j_u(o:FleetMath.Ord)(b:Nat)(x:Int)(w:World)(hb:Blk w b 3 [.int .i64 x]):
 Calls Tryz.prog 254 #[ordV o,.pointer (some ⟨b,0,none⟩)] w (fun e w'=>e=.returned (.bool (o.id==x))∧Below w.heap.size w w'):=by
 have h1:=hb.below ((Below.refl _ _).alloc (Nat.le_refl _) (.cells #[.int .i64 o.id,.int .i64 o.size,.int .i64 o.pick.place,.int .i64 o.pick.win.fr,.int .i64 o.pick.win.to,.int .i64 o.pick.serv,.int .i64 o.drop.place,.int .i64 o.drop.win.fr,.int .i64 o.drop.win.to,.int .i64 o.drop.serv] 31)) hb.lt;have c0:=h1.cell (i:=0) rfl;clear h1 hb;go_enter Tryz.func254,Tryz.ntmps254;go_wp2
 go_ret;exact⟨rfl,(Below.refl _ _).alloc (Nat.le_refl _) _⟩
theorem h_z(A:Option Addr)(n c:Nat)(l:List FleetMath.Ord)(b:Nat)(x:Int)(w:World)(hl:Ords w w.heap.size A n l)(hb:Blk w b 3 [.int .i64 x]):
 Calls Tryz.prog 228 #[.slice A n c,.func (.func 254) #[] #[.pointer (some ⟨b,0,none⟩)]] w (fun e w'=>e=.returned (.int .i64 (b_T l x 0))∧Below w.heap.size w w'):=by
 have hm:=Recs.le hl;have HI:=Lib.hid hl;have HL:=Lib.hid hl.length;have HBX:=Lib.hid hb;clear hl hb;go_enter Tryz.func228,Tryz.ntmps228;go_wp2_with fail
 go_loopw [8] (fun iv wr=>∃k:Nat,k≤n∧iv=.int .i64 k∧Hid (Below w.heap.size w wr)∧Hid (b_T (l.drop k) x k=b_T l x 0)) (fun iv _=>n-(intOf iv).toNat)
 case atStart=>exact⟨0,Nat.zero_le _,rfl,Below.refl _ _,Lib.hid rfl⟩
 case round=>
  obtain⟨k,hk,rfl,HB,HK⟩:=hrel;by_cases hlt:k<n
  ·obtain⟨bb,off,o,rfl,hbb,ho,hdr,c0,c1,c2,c3,c4,c5,c6,c7,c8,c9⟩:=Ords.at_ (Recs.keep HI.out HB.out) hlt
   have HK1:=HK.out;rw[hdr,c_T]at HK1;have HBW:Hid (Blk wr b 3 [.int .i64 x]):=HBX.out.below HB.out HBX.out.lt;have HC:=Lib.hid (j_u o b x);by_cases hid:o.id=x
   ·rw[if_pos hid]at HK1
    have HF:=Lib.hid HK1;have e1:(o.id==x)=true:=by simpa using hid
    rw[e1]at HC;clear hid HK HK1 ho hdr;go_wp2_with fail
    refine(HC.out _ (by exact HBW.out)).mono ?_;rintro e w' ⟨rfl,hb2⟩;have HB2:=Lib.hid (HB.out.trans (hb2.mono HB.out.size));clear hb2 c0 c1 c2 c3 c4 c5 c6 c7 c8 c9;go_wp2_with fail
    go_ret;exact⟨a_5 (by rw[HF.out]),HB2.out⟩
   ·rw[if_neg hid]at HK1
    have HF:=Lib.hid HK1;have e1:(o.id==x)=false:=by simpa using hid
    rw[e1]at HC;clear hid HK HK1 ho hdr;go_wp2_with fail
    refine(HC.out _ (by exact HBW.out)).mono ?_;rintro e w' ⟨rfl,hb2⟩;have HB2:=Lib.hid (HB.out.trans (hb2.mono HB.out.size));clear hb2 c0 c1 c2 c3 c4 c5 c6 c7 c8 c9;go_wp2_with fail
    go_roundw
    case rel=>exact⟨k+1,by omega,by go_num,HB2,HF⟩
    case measure=>simp[intOf];omega
  ·have HF:Hid (-1=b_T l x 0):=by
    have h:=HK.out;rw[List.drop_of_length_le (by have:=HL.out;omega)]at h;exact h
   clear HK;go_wp2_with fail
   go_ret;exact⟨a_5 (by rw[← HF.out]),HB.out⟩
abbrev d_V(id:Int):FleetMath.Ord→Bool:=fun o=>!decide (o.id=id)
theorem r_N{l:List FleetMath.Ord}{id:Int}{k:Nat}(h:b_T l id k=-1):l.filter (d_V id)=l:=by
 induction l generalizing k with
 |nil=>rfl
 |cons x r ih=>
  rw[c_T]at h;by_cases e:x.id=id
  ·rw[if_pos e]at h;omega
  ·rw[if_neg e]at h
   rw[List.filter_cons,if_pos (by simp[d_V,e]),ih h]
theorem j_v{l:List FleetMath.Ord}{id:Int}{k i:Nat}(h:b_T l id k=((k+i:Nat):Int)):i<l.length∧(l.take (i+1)).filter (d_V id)=l.take i:=by
 induction l generalizing k i with
 |nil=>simp only[b_T]at h;omega
 |cons x r ih=>
  rw[c_T]at h;by_cases e:x.id=id
  ·rw[if_pos e]at h
   have hi:i=0:=by omega
   subst hi;exact⟨by simp,by simp[d_V,e]⟩
  ·rw[if_neg e]at h
   cases i with
   |zero=>
    exfalso;rcases e_M r id (k+1)with⟨_,h2⟩|⟨j,_,_,_,h2⟩<;>rw[h2]at h<;>omega
   |succ i=>
    obtain⟨h1,h2⟩:=ih (k:=k+1) (i:=i) (by rw[h];congr 1;omega);exact⟨by simp only[List.length_cons];omega,by rw[List.take_succ_cons,List.filter_cons,if_pos (by simp[d_V,e]),h2,List.take_succ_cons]⟩
theorem s_0(p t:List Value)(c:Nat)(v:Value):(p++t).set (p.length+c) v=p++t.set c v:=by
 rw[List.set_append_right _ _ (by omega),Nat.add_sub_cancel_left]
abbrev p_2(u:World)(g k:Nat)(o:FleetMath.Ord):World:=((((((((((u.setCell ⟨g,k,none⟩ (.int .i64 o.id)).setCell ⟨g,k+1,none⟩ (.int .i64 o.size)).setCell ⟨g,k+2,none⟩ (.int .i64 o.pick.place)).setCell ⟨g,k+3,none⟩ (.int .i64 o.pick.win.fr)).setCell ⟨g,k+4,none⟩ (.int .i64 o.pick.win.to)).setCell ⟨g,k+5,none⟩ (.int .i64 o.pick.serv)).setCell ⟨g,k+6,none⟩ (.int .i64 o.drop.place)).setCell ⟨g,k+7,none⟩ (.int .i64 o.drop.win.fr)).setCell ⟨g,k+8,none⟩ (.int .i64 o.drop.win.to)).setCell ⟨g,k+9,none⟩ (.int .i64 o.drop.serv))
theorem n_B{u:World}{g i:Nat}{r:List FleetMath.Ord}{ex:List Value}(h:Blk u g 31 (a_g r++ex))(hi:i<r.length)(o:FleetMath.Ord):Blk (p_2 u g (i*10) o) g 31 (a_g (r.set i o)++ex):=by
 have hp:=((((((((((h.put (i*10+0) (.int .i64 o.id)).put (i*10+1) (.int .i64 o.size)).put (i*10+2) (.int .i64 o.pick.place)).put (i*10+3) (.int .i64 o.pick.win.fr)).put (i*10+4) (.int .i64 o.pick.win.to)).put (i*10+5) (.int .i64 o.pick.serv)).put (i*10+6) (.int .i64 o.drop.place)).put (i*10+7) (.int .i64 o.drop.win.fr)).put (i*10+8) (.int .i64 o.drop.win.to)).put (i*10+9) (.int .i64 o.drop.serv))
 obtain⟨a,y,b,rfl,hl⟩:∃(a:List FleetMath.Ord) (y:FleetMath.Ord) (b:List FleetMath.Ord),r=a++y::b∧a.length=i:=
  ⟨r.take i,r[i],r.drop (i+1),by rw[← List.drop_eq_getElem_cons hi,List.take_append_drop],by rw[List.length_take];omega⟩
 have e:(a++y::b).set i o=a++o::b:=by
  rw[List.set_append_right _ _ (by omega),hl,Nat.sub_self,List.set_cons_zero]
 have ea:i*10=(a_g a).length:=by rw[a_U,hl]
 have ey:∀z:FleetMath.Ord,a_g (z::b)=[.int .i64 z.id,.int .i64 z.size,.int .i64 z.pick.place,.int .i64 z.pick.win.fr,.int .i64 z.pick.win.to,.int .i64 z.pick.serv,.int .i64 z.drop.place,.int .i64 z.drop.win.fr,.int .i64 z.drop.win.to,.int .i64 z.drop.serv]++a_g b:=fun z=>rfl;rw[e,a_Z,ey o];rw[a_Z,ey y,ea]at hp;simp only[List.append_assoc,s_0,List.cons_append,List.nil_append,List.set_cons_zero,List.set_cons_succ]at hp;simp only[List.append_assoc,List.cons_append,List.nil_append];rw[← ea]at hp;exact hp
theorem j_w{B:Nat}{w u:World}{g k:Nat}(h:Below B w u)(hg:B≤g)(o:FleetMath.Ord):Below B w (p_2 u g k o):=((((((((((h.setCell hg _).setCell hg _).setCell hg _).setCell hg _).setCell hg _).setCell hg _).setCell hg _).setCell hg _).setCell hg _).setCell hg _)
theorem i_n{u:World}{g n:Nat}{r:List FleetMath.Ord}{ex:List Value}(h:Blk u g 31 (a_g r++ex))(hn:r.length=n)(hm:n≤maxLen):Ords u (g+1) (some ⟨g,0,none⟩) n r:=by
 refine⟨by rw[a_U,hn],hm,fun _=>⟨g,0,rfl,Nat.lt_succ_self _,fun j v hv=>?_⟩⟩;rw[Nat.zero_add];refine h.cell ?_;rw[List.getElem?_append_left (List.getElem?_eq_some_iff.1 hv).1];exact hv
theorem b_6{u:World}{g i:Nat}{r:List FleetMath.Ord}{ex:List Value}(h:Blk u g 31 (a_g r++ex))(hi:i<r.length)(c:Nat)(hc:c<10):(∃ x,u.cell? ⟨g,i*10+c,none⟩=some x)∧u.frozen? ⟨g,i*10+c,none⟩=false:=by
 have hlt:i*10+c<(a_g r++ex).length:=by rw[List.length_append,a_U];omega
 exact⟨⟨_,h.cell (List.getElem?_eq_getElem hlt)⟩,h.free _⟩
theorem g_Z{g n c l:Nat}(u:World)(h1:l<n)(h3:n≤c):(Instr.sliceAt 40 (.slice (some ⟨g,0,none⟩) n c) (some (.int .i64 (l:Int))) none none).run Tryz.prog u=.ok (.slice (some ⟨g,l*10,none⟩) (n-l) (c-l)) u:=by
 have hsz:(sizeOf 31).run Tryz.prog u=.ok 10 u:=by
  obtain⟨i,hi,_,hz,_⟩:=info_parts b_R;simp[sizeOf,typeInfo,hi,hz]
 have q:l≤n:=Nat.le_of_lt h1;have q2:¬c=l:=by omega
 have q3:¬c-l=0:=by omega
 simp[Instr.sliceAt,Instr.slice,Instr.sliceBounds,Instr.sliceBound,run_underlying Tryz.underlying40,asIntOf,hsz,q,q2,q3,h3,Addr.add];omega
theorem g_0{g n c l:Nat}(u:World)(h1:l≤n)(h3:n≤c):(Instr.sliceAt 40 (.slice (some ⟨g,0,none⟩) n c) none (some (.int .i64 (l:Int))) none).run Tryz.prog u=.ok (.slice (some ⟨g,0,none⟩) l c) u:=by
 have hsz:(sizeOf 31).run Tryz.prog u=.ok 10 u:=by
  obtain⟨i,hi,_,hz,_⟩:=info_parts b_R;simp[sizeOf,typeInfo,hi,hz]
 have q:l≤c:=Nat.le_trans h1 h3;simp[Instr.sliceAt,Instr.slice,Instr.sliceBounds,Instr.sliceBound,run_underlying Tryz.underlying40,asIntOf,hsz,q,Addr.add]
theorem t_C(i:Nat):(#[.int .i64 0,.int .i64 0,.int .i64 0,.int .i64 0,.int .i64 0,.int .i64 0,.int .i64 0,.int .i64 0,.int .i64 0,.int .i64 0]:Array Value)[i%10]! =.int .i64 0:=by
 have h:i%10<10:=Nat.mod_lt _ (by decide);generalize i%10=j at h ⊢;rcases j with _|_|_|_|_|_|_|_|_|_|j;all_goals first|rfl|omega
theorem j_x:∀w,(zeroValue 31).run Tryz.prog w=.ok (.agg #[.int .i64 0,.int .i64 0,.int .i64 0,.int .i64 0,.int .i64 0,.int .i64 0,.int .i64 0,.int .i64 0,.int .i64 0,.int .i64 0]) w:=fun w=>by
 obtain⟨i,hi,hz,_,_⟩:=info_parts b_R;simp[zeroValue,typeInfo,hi,hz]
theorem i_o{w:World}{ty:TypeId}{g off n c:Nat}{t:TypeId}{cur:List Value}(hn:0<n)(hg:Blk w g t cur)(hfit:off+n*10≤cur.length):
 ∃vs:List Value,(Builtin.clear_ #[40] ty #[.slice (some ⟨g,off,none⟩) n c]).run Tryz.prog w=.ok (.tuple #[]) (w.setRow g (cur.take off++vs).toArray)∧(cur.take off++vs).length=cur.length:=by
 obtain⟨m,rfl⟩:∃m,n=m+1:=⟨n-1,by omega⟩
 have hst:=run_storeCells_at Tryz.prog g off t (Builtin.zeroCells #[.int .i64 0,.int .i64 0,.int .i64 0,.int .i64 0,.int .i64 0,.int .i64 0,.int .i64 0,.int .i64 0,.int .i64 0,.int .i64 0] (m+1)).toList 0 cur.toArray w hg (by simp[Builtin.zeroCells];omega) (fun v hv=>by
  simp only[Builtin.zeroCells,Array.toList_map,List.mem_map]at hv;obtain⟨i,_,rfl⟩:=hv;rw[show(#[.int .i64 0,.int .i64 0,.int .i64 0,.int .i64 0,.int .i64 0,.int .i64 0,.int .i64 0,.int .i64 0,.int .i64 0,.int .i64 0]:Array Value).size=10 from rfl,t_C];rfl)
 refine⟨(Builtin.zeroCells #[.int .i64 0,.int .i64 0,.int .i64 0,.int .i64 0,.int .i64 0,.int .i64 0,.int .i64 0,.int .i64 0,.int .i64 0,.int .i64 0] (m+1)).toList++cur.drop (off+(m+1)*10),?_,by simp[Builtin.zeroCells];omega⟩;have hl:(Builtin.zeroCells #[.int .i64 0,.int .i64 0,.int .i64 0,.int .i64 0,.int .i64 0,.int .i64 0,.int .i64 0,.int .i64 0,.int .i64 0,.int .i64 0] (m+1)).toList.length=(m+1)*10:=by simp[Builtin.zeroCells]
 simp only[Nat.add_zero,hl,List.append_assoc]at hst;simp[Builtin.clear_,run_underlying Tryz.underlying40,j_x,Value.cells,hst]
theorem n_C(A:Option Addr)(n c:Nat)(l:List FleetMath.Ord)(b:Nat)(id:Int)(w:World)(hl:Ords w w.heap.size A n l)(hb:Blk w b 3 [.int .i64 id])(hi:b_T l id 0=-1):
 Calls Tryz.prog 253 #[.slice A n c,.func (.func 254) #[] #[.pointer (some ⟨b,0,none⟩)]] w fun e w'=>e=.returned (.slice A n c)∧Below w.heap.size w w':=by
 have HC:=Lib.hid (h_z A n c l b id w hl hb);rw[hi]at HC;clear hl hb hi;go_enter Tryz.func253,Tryz.ntmps253;go_wp2_with fail
 refine HC.out.mono ?_;rintro e w1 ⟨rfl,hb⟩;have HB:=Lib.hid hb;clear hb;go_wp2_with fail
 go_ret;exact⟨rfl,HB.out⟩
theorem n_D(g n cap:Nat)(l:List FleetMath.Ord)(ex:List Value)(b:Nat)(id:Int)(i0:Nat)(w:World)(hrow:Blk w g 31 (a_g l++ex))(hn:l.length=n)(hm:n≤maxLen)(hnc:n≤cap)(hb:Blk w b 3 [.int .i64 id])(hbg:b<g)(hi:b_T l id 0=(i0:Int)):
 Calls Tryz.prog 253 #[.slice (some ⟨g,0,none⟩) n cap,.func (.func 254) #[] #[.pointer (some ⟨b,0,none⟩)]] w fun e w'=>∃n' ex',e=.returned (.slice (some ⟨g,0,none⟩) n' cap)∧n'≤n∧Below g w w'∧(l.filter (d_V id)).length=n'∧Blk w' g 31 (a_g (l.filter (d_V id))++ex')∧(a_g (l.filter (d_V id))++ex').length=(a_g l++ex).length:=by
 have hgl:=hrow.lt;have HC:=Lib.hid (h_z (some ⟨g,0,none⟩) n cap l b id w ((i_n hrow hn hm).more hgl) hb);rw[hi]at HC;obtain⟨h1,h2⟩:=j_v (l:=l) (id:=id) (k:=0) (i:=i0) (by rw[hi,Nat.zero_add]);have h1n:i0<n:=by omega
 have hn63:n≤9223372036854775807:=by unfold maxLen at hm;omega
 have HR:=Lib.hid hrow;have HN:=Lib.hid hn;have HT:=Lib.hid h2;have HX:=Lib.hid hb;clear hrow hn hb hi h1 h2;go_enter Tryz.func253,Tryz.ntmps253;go_wp2_with fail
 refine HC.out.mono ?_;rintro e w1 ⟨rfl,hb⟩;have HB1:Hid (Below g w w1):=hb.mono (Nat.le_of_lt hgl);have HR1:Hid (Blk w1 g 31 (a_g l++ex)):=HR.out.below hb hgl;have e0:((i0:Int)==-1)=false:=by simp
 have e0':¬(i0:Int)=-1:=by omega
 clear hb HC;go_wp2_with fail
 clear e0 e0';go_loopw [5,6] (fun iv jv wr=>∃(i j:Nat) (r:List FleetMath.Ord),i<j∧j≤n∧iv=.int .i64 (i:Int)∧jv=.int .i64 (j:Int)∧Hid (Below g w wr)∧Hid (Blk wr g 31 (a_g r++ex))∧Hid (r.length=n∧r.take i=(l.take j).filter (d_V id)∧r.drop j=l.drop j)) (fun _ jv _=>n-(intOf jv).toNat)
 case atStart=>exact⟨i0,i0+1,l,by omega,by omega,rfl,by go_num,HB1,HR1,Lib.hid ⟨HN.out,HT.out.symm,rfl⟩⟩
 case round=>
  clear HB1 HR1 HT;obtain⟨i,j,r,hij,hj,rfl,rfl,HB,HRR,HK⟩:=hrel;have hin:i<n:=by omega
  by_cases hlt:j<n
  case neg=>
   have hje:j=n:=by omega
   subst hje;have hsl:=fun u=>g_Z (g:=g) (c:=cap) u hin hnc;have hfr:=fun u=>g_0 (g:=g) (c:=cap) u (Nat.le_of_lt hin) hnc
   have HF:Hid (r.take i=l.filter (d_V id)):=by
    show _=_;rw[HK.out.2.1,List.take_of_length_le (by rw[HN.out];exact Nat.le_refl _)]
   have hfit:i*10+(j-i)*10≤(a_g r++ex).length:=by
    rw[List.length_append,a_U,HK.out.1];omega
   have hlr:(a_g r).take (i*10)=a_g (r.take i):=by
    have e:a_g r=a_g (r.take i)++a_g (r.drop i):=by rw[← a_Z,List.take_append_drop]
    rw[e,List.take_left' (by rw[a_U,List.length_take];have:=HK.out.1;omega)]
   have HLR:Hid ((a_g r++ex).take (i*10)=a_g (l.filter (d_V id))):=by
    show _=_;rw[List.take_append_of_le_length (by rw[a_U];have:=HK.out.1;omega),hlr,HF.out]
   have HLL:Hid ((l.filter (d_V id)).length=i):=by
    show _=_;rw[← HF.out,List.length_take];have:=HK.out.1;omega
   have hpos:0<j-i:=by omega
   have HKL:Hid (r.length=j):=HK.out.1;clear hlr HF HK hlt;obtain⟨vs,hcl,hcn⟩:=i_o (w:=wr) (ty:=0) (g:=g) (off:=i*10) (n:=j-i) (c:=cap-i) hpos HRR.out hfit;have HR5:Hid (Blk (wr.setRow g ((a_g r++ex).take (i*10)++vs).toArray) g 31 ((a_g r++ex).take (i*10)++vs)):=setRow_heap wr g _ _ _ _ HRR.out;have HB5:Hid (Below g w (wr.setRow g ((a_g r++ex).take (i*10)++vs).toArray)):=below_setRow HB.out (Nat.le_refl _) _;obtain⟨w5,hw5⟩:∃u,wr.setRow g ((a_g r++ex).take (i*10)++vs).toArray=u:=⟨_,rfl⟩;rw[hw5]at hcl HR5 HB5
   have HCN:Hid (((a_g r++ex).take (i*10)++vs).length=(a_g l++ex).length):=by
    show _=_;rw[hcn,List.length_append,List.length_append,a_U,a_U,HKL.out,HN.out]
   clear hw5 hfit HRR HB hcn;go_wp2_with fail
   go_ret;have h6:=HR5.out;have h7:=HCN.out;rw[HLR.out]at h6 h7;exact⟨i,vs,rfl,Nat.le_of_lt hin,HB5.out,HLL.out,h6,h7⟩
  obtain⟨bb,off,o,e0,_,ho,hdr,-⟩:=Ords.at_ (i_n HRR.out HK.out.1 hm) hlt;injection e0 with e0;injection e0 with e1 e2;subst e1;subst e2
  have hol:l[j]?=some o:=by
   have h:=congrArg (fun z=>z[0]?) HK.out.2.2;simp only[List.getElem?_drop,Nat.add_zero]at h;rw[← h];exact ho
  obtain⟨c0,c1,c2,c3,c4,c5,c6,c7,c8,c9⟩:wr.cell? ⟨g,j*10,none⟩=some (.int .i64 o.id)∧wr.cell? ⟨g,j*10+1,none⟩=some (.int .i64 o.size)∧wr.cell? ⟨g,j*10+2,none⟩=some (.int .i64 o.pick.place)∧wr.cell? ⟨g,j*10+3,none⟩=some (.int .i64 o.pick.win.fr)∧wr.cell? ⟨g,j*10+4,none⟩=some (.int .i64 o.pick.win.to)∧wr.cell? ⟨g,j*10+5,none⟩=some (.int .i64 o.pick.serv)∧wr.cell? ⟨g,j*10+6,none⟩=some (.int .i64 o.drop.place)∧wr.cell? ⟨g,j*10+7,none⟩=some (.int .i64 o.drop.win.fr)∧wr.cell? ⟨g,j*10+8,none⟩=some (.int .i64 o.drop.win.to)∧wr.cell? ⟨g,j*10+9,none⟩=some (.int .i64 o.drop.serv):=by
   obtain⟨bb,off,o',e0,_,ho',_,c0,c1,c2,c3,c4,c5,c6,c7,c8,c9⟩:=Ords.at_ (i_n HRR.out HK.out.1 hm) hlt;injection e0 with e0;injection e0 with e1 e2;subst e1;subst e2;rw[ho]at ho';injection ho' with ho';subst ho';simp only[Nat.zero_add]at c0 c1 c2 c3 c4 c5 c6 c7 c8 c9;exact⟨c0,c1,c2,c3,c4,c5,c6,c7,c8,c9⟩
  have hjj:(j:Int)<(n:Int):=by omega
  have HOL:=Lib.hid hol;have b0:Below wr.heap.size wr (wr.alloc (.cells #[.int .i64 o.id,.int .i64 o.size,.int .i64 o.pick.place,.int .i64 o.pick.win.fr,.int .i64 o.pick.win.to,.int .i64 o.pick.serv,.int .i64 o.drop.place,.int .i64 o.drop.win.fr,.int .i64 o.drop.win.to,.int .i64 o.drop.serv] 31)):=(Below.refl _ _).alloc (Nat.le_refl _) _;have HO2:Hid (OBox (wr.alloc (.cells #[.int .i64 o.id,.int .i64 o.size,.int .i64 o.pick.place,.int .i64 o.pick.win.fr,.int .i64 o.pick.win.to,.int .i64 o.pick.serv,.int .i64 o.drop.place,.int .i64 o.drop.win.fr,.int .i64 o.drop.win.to,.int .i64 o.drop.serv] 31)) wr.heap.size o):=Blk.new wr _ _;have HB2:Hid (Below g w (wr.alloc (.cells #[.int .i64 o.id,.int .i64 o.size,.int .i64 o.pick.place,.int .i64 o.pick.win.fr,.int .i64 o.pick.win.to,.int .i64 o.pick.serv,.int .i64 o.drop.place,.int .i64 o.drop.win.fr,.int .i64 o.drop.win.to,.int .i64 o.drop.serv] 31))):=HB.out.trans (b0.mono (Nat.le_of_lt HRR.out.lt));have HR2:Hid (Blk (wr.alloc (.cells #[.int .i64 o.id,.int .i64 o.size,.int .i64 o.pick.place,.int .i64 o.pick.win.fr,.int .i64 o.pick.win.to,.int .i64 o.pick.serv,.int .i64 o.drop.place,.int .i64 o.drop.win.fr,.int .i64 o.drop.win.to,.int .i64 o.drop.serv] 31)) g 31 (a_g r++ex)):=HRR.out.below b0 HRR.out.lt;clear ho hdr hol b0;go_upto_region 8 with fail
  clear c0 c1 c2 c3 c4 c5 c6 c7 c8 c9;obtain⟨w2,hw2⟩:∃u,wr.alloc (.cells #[.int .i64 o.id,.int .i64 o.size,.int .i64 o.pick.place,.int .i64 o.pick.win.fr,.int .i64 o.pick.win.to,.int .i64 o.pick.serv,.int .i64 o.drop.place,.int .i64 o.drop.win.fr,.int .i64 o.drop.win.to,.int .i64 o.drop.serv] 31)=u:=⟨_,rfl⟩;obtain⟨gb,hgb⟩:∃k,wr.heap.size=k:=⟨_,rfl⟩;have hgg:Hid (g<gb):=by rw[← hgb];exact HRR.out.lt
  rw[hw2]at HO2 HB2 HR2 ⊢;rw[hgb]at HO2 ⊢;clear hw2 hgb HB HRR;have HCL:=Lib.hid (j_u o b id w2 (HX.out.below HB2.out hbg));by_cases hid:o.id=id
  ·have e1:(o.id==id)=true:=by simpa using hid
   rw[e1]at HCL
   have HN2:Hid (r.length=n∧r.take i=(l.take (j+1)).filter (d_V id)∧r.drop (j+1)=l.drop (j+1)):=by
    refine⟨HK.out.1,?_,?_⟩
    ·rw[List.take_add_one,HOL.out,List.filter_append,HK.out.2.1]
     simp[d_V,hid]
    ·rw[← List.drop_drop,HK.out.2.2,List.drop_drop]
   clear e1 hid HK HOL;obtain⟨o0,o1,o2,o3,o4,o5,o6,o7,o8,o9⟩:=HO2.out.cells;go_wp2_with fail
   refine HCL.out.mono ?_;rintro e w3 ⟨rfl,hb3⟩;have HB3:Hid (Below g w w3):=HB2.out.trans (hb3.mono (Nat.le_of_lt HR2.out.lt));have HR3:Hid (Blk w3 g 31 (a_g r++ex)):=HR2.out.below hb3 HR2.out.lt;clear hb3 HCL HB2 HR2 HO2 o0 o1 o2 o3 o4 o5 o6 o7 o8 o9;go_wp2_with fail
   go_roundw
   case rel=>exact⟨i,j+1,r,by omega,by omega,rfl,by go_num,HB3,HR3,HN2⟩
   case measure=>simp[intOf];omega
  ·have e1:(o.id==id)=false:=by simpa using hid
   rw[e1]at HCL
   have HN2:Hid ((r.set i o).length=n∧(r.set i o).take (i+1)=(l.take (j+1)).filter (d_V id)∧(r.set i o).drop (j+1)=l.drop (j+1)):=by
    have hri:i<r.length:=by rw[HK.out.1];exact hin
    refine⟨by rw[List.length_set];exact HK.out.1,?_,?_⟩
    ·rw[List.take_add_one,List.take_add_one (l:=l),HOL.out,List.filter_append,←HK.out.2.1,List.getElem?_set_self hri,List.take_set_of_le (Nat.le_refl _)]
     simp[d_V,hid]
    ·rw[List.drop_set_of_lt (by omega),←List.drop_drop,HK.out.2.2,List.drop_drop]
   have hri:Hid (i<r.length):=by show _<_;rw[HK.out.1];exact hin
   clear e1 hid HK HOL;obtain⟨o0,o1,o2,o3,o4,o5,o6,o7,o8,o9⟩:=HO2.out.cells;go_wp2_with fail
   refine HCL.out.mono ?_;rintro e w3 ⟨rfl,hb3⟩;have HB3:Hid (Below g w w3):=HB2.out.trans (hb3.mono (Nat.le_of_lt HR2.out.lt));have HR3:Hid (Blk w3 g 31 (a_g r++ex)):=HR2.out.below hb3 HR2.out.lt;have HO3:Hid (OBox w3 gb o):=HO2.out.below hb3;clear hb3 HCL HB2 HR2 HO2 o0 o1 o2 o3 o4 o5 o6 o7 o8 o9;obtain⟨o0,o1,o2,o3,o4,o5,o6,o7,o8,o9⟩:=HO3.out.cells;obtain⟨⟨x0,r0⟩,f0⟩:=b_6 HR3.out hri.out 0 (by decide);obtain⟨⟨x1,r1⟩,f1⟩:=b_6 HR3.out hri.out 1 (by decide);obtain⟨⟨x2,r2⟩,f2⟩:=b_6 HR3.out hri.out 2 (by decide);obtain⟨⟨x3,r3⟩,f3⟩:=b_6 HR3.out hri.out 3 (by decide);obtain⟨⟨x4,r4⟩,f4⟩:=b_6 HR3.out hri.out 4 (by decide);obtain⟨⟨x5,r5⟩,f5⟩:=b_6 HR3.out hri.out 5 (by decide);obtain⟨⟨x6,r6⟩,f6⟩:=b_6 HR3.out hri.out 6 (by decide);obtain⟨⟨x7,r7⟩,f7⟩:=b_6 HR3.out hri.out 7 (by decide);obtain⟨⟨x8,r8⟩,f8⟩:=b_6 HR3.out hri.out 8 (by decide);obtain⟨⟨x9,r9⟩,f9⟩:=b_6 HR3.out hri.out 9 (by decide);simp only[Nat.add_zero]at r0 f0;have hcs:=a_c g;have hfs:=a_d;have HB4:=Lib.hid (j_w (k:=i*10) HB3.out (Nat.le_refl _) o);have HR4:=Lib.hid (n_B HR3.out hri.out o);have hii:(i:Int)<(n:Int):=by omega
   go_upto_region 10 with fail
   dsimp only[p_2]at HB4 HR4;obtain⟨w4,hw4⟩:∃u,((((((((((w3.setCell ⟨g,i*10,none⟩ (.int .i64 o.id)).setCell ⟨g,i*10+1,none⟩ (.int .i64 o.size)).setCell ⟨g,i*10+2,none⟩ (.int .i64 o.pick.place)).setCell ⟨g,i*10+3,none⟩ (.int .i64 o.pick.win.fr)).setCell ⟨g,i*10+4,none⟩ (.int .i64 o.pick.win.to)).setCell ⟨g,i*10+5,none⟩ (.int .i64 o.pick.serv)).setCell ⟨g,i*10+6,none⟩ (.int .i64 o.drop.place)).setCell ⟨g,i*10+7,none⟩ (.int .i64 o.drop.win.fr)).setCell ⟨g,i*10+8,none⟩ (.int .i64 o.drop.win.to)).setCell ⟨g,i*10+9,none⟩ (.int .i64 o.drop.serv))=u:=⟨_,rfl⟩;rw[hw4]at HB4 HR4 ⊢;clear hw4 HB3 HR3 HO3 o0 o1 o2 o3 o4 o5 o6 o7 o8 o9 hcs hfs r0 f0 r1 f1 r2 f2 r3 f3 r4 f4 r5 f5 r6 f6 r7 f7 r8 f8 r9 f9;go_wp2_with fail
   go_roundw
   case rel=>exact⟨i+1,j+1,r.set i o,by omega,by omega,by go_num,by go_num,HB4,HR4,HN2⟩
   case measure=>simp[intOf];omega
theorem l_c(A:Option Addr)(n c:Nat)(l:List FleetMath.Ord)(w:World)(h:Ords w w.heap.size A n l)(h80:n*80≤140737488351232):
 Calls Tryz.prog 94 #[.slice A n c] w fun e w'=>∃v,e=.returned v∧Below w.heap.size w w'∧OwnK w' w.heap.size 31 10 v n (a_g l):=by
 have hm:=h.2.1;cases A with
 |none=>
  have hn:n=0:=by
   rcases Nat.eq_zero_or_pos n with h0|h0
   ·exact h0
   ·obtain⟨_,_,e,_⟩:=h.2.2 h0
    cases e
  subst hn;have hl:a_g l=[]:=List.eq_nil_of_length_eq_zero (by have:=h.1;omega);have HL:=Lib.hid hl;have hnil:(binOp .eql 40 (.slice none 0 c) (.slice none 0 0)).run Tryz.prog w=.ok (.bool true) w:=Lib.run_eql_slice_nil w 40 31 none 0 c 0 0 Tryz.underlying40;clear h hl;go_enter Tryz.func94,Tryz.ntmps94;go_wp2
  go_ret;exact⟨_,rfl,Below.refl _ _,by rw[HL.out];exact OwnK.nil _ _ _ _⟩
 |some ad=>
  have HA2:Hid (Ords (w.alloc (Obj.cells #[] 31)) w.heap.size (some ad) n l):=Recs.alloc h (Nat.le_refl _) _;have HO:Hid (OwnK (w.alloc (Obj.cells #[] 31)) w.heap.size 31 10 (.slice (some ⟨w.heap.size,0,none⟩) 0 0) 0 []):=OwnK.new0 w _ _ _ (Nat.le_refl _);have HB:Below w.heap.size w (w.alloc (Obj.cells #[] 31)):=(Below.refl _ _).alloc (Nat.le_refl _) _;have hnil:(binOp .eql 40 (.slice (some ad) n c) (.slice none 0 0)).run Tryz.prog w=.ok (.bool false) w:=Lib.run_eql_slice_nil w 40 31 (some ad) n c 0 0 Tryz.underlying40;clear h;go_enter Tryz.func94,Tryz.ntmps94;go_wp2_with (at_builtin;refine a_T (o:=⟨some 7,_,_,_,_,_⟩) rfl (.tmp 5) (.tmp 6) Tryz.underlying40 b_R rfl (by decide) rfl HO.out rfl HA2.out rfl (c_f l) (by unfold maxLen;omega) (by omega) HB (by simp) (by simp) (Nat.le_refl _) ?_;intro v1 w1 HV HB1 HZ1;have HV2:=HV.out;rw[Nat.zero_add,List.nil_append]at HV2;clear HV;replace HV2:=Lib.hid HV2)
  go_ret;exact⟨v1,rfl,HB1.out,HV2.out⟩
theorem j_y(A:Option Addr)(n c:Nat)(l:List FleetMath.Ord)(id:Int)(w:World)(h:Ords w w.heap.size A n l)(h80:n*80≤140737488351232):
 Calls Tryz.prog 235 #[.slice A n c,.int .i64 id] w fun e w'=>∃v,e=.returned v∧Below w.heap.size w w'∧OwnK w' w.heap.size 31 10 v (b_e l id).length (a_g (b_e l id)):=by
 have HI:=Lib.hid h;have HB0:Hid (Below w.heap.size w (w.alloc (.cells #[.int .i64 id] 3))):=(Below.refl _ _).alloc (Nat.le_refl _) _;have HX0:Hid (Blk (w.alloc (.cells #[.int .i64 id] 3)) w.heap.size 3 [.int .i64 id]):=Blk.new w _ _;clear h;go_enter Tryz.func235,Tryz.ntmps235;have hmf:∀(fn:Fn) (first cap:Array Value) (w:World),(Instr.makeFunc fn first cap).run Tryz.prog w=.ok (.func fn first cap) w:=fun _ _ _ _=>rfl;go_wp2_with fail
 refine(l_c A n c l _ (by exact Recs.more (Recs.keep HI.out HB0.out) HB0.out.size) h80).mono ?_;rintro e w1 ⟨v,rfl,hb1,hown⟩;have HB1:Hid (Below w.heap.size w w1):=HB0.out.trans (hb1.mono HB0.out.size);have HX1:Hid (Blk w1 w.heap.size 3 [.int .i64 id]):=HX0.out.below hb1 HX0.out.lt;obtain⟨B,c',rfl,hnc,hrd⟩:=hown.read;have HRD:=Lib.hid hrd;have HOW:=Lib.hid hown;have hgs:w.heap.size+1≤(w.alloc (.cells #[.int .i64 id] 3)).heap.size:=by simp
 have HGS:=Lib.hid hgs;clear hb1 hown hrd hgs HB0 HX0;rcases e_M l id 0 with⟨_,hz⟩|⟨i,_,_,_,hz⟩
 ·have HZ:=Lib.hid hz
  clear hz;go_wp2_with fail
  refine(n_C B n c' l w.heap.size id w1 (by exact HRD.out) (by exact HX1.out) HZ.out).mono ?_;rintro e w2 ⟨rfl,hb2⟩;have HB2:=Lib.hid (HB1.out.trans (hb2.mono HB1.out.size));have HO2:=Lib.hid ((HOW.out.keep hb2 (Nat.le_refl _)).lower (show w.heap.size≤_ by have:=HGS.out;omega));clear hb2;go_wp2_with fail
  go_ret;refine⟨_,rfl,HB2.out,?_⟩;unfold b_e;rw[r_N HZ.out,Ords.length HRD.out];exact HO2.out
 ·rw[Nat.zero_add]at hz
  have HZ:=Lib.hid hz
  have hpos:0<n:=by
   have h1:=(j_v (l:=l) (id:=id) (k:=0) (i:=i) (by rw[hz,Nat.zero_add])).1;have h2:=Ords.length HRD.out;omega
  clear hz
  obtain⟨g,cap,cur,e1,hg,hrow,hnc2,hcm,hlen,htk⟩:∃g cap cur,(Value.slice B n c')=.slice (some ⟨g,0,none⟩) n cap∧(w.alloc (.cells #[.int .i64 id] 3)).heap.size≤g∧Blk w1 g 31 cur∧n≤cap∧cap≤maxLen∧cur.length=cap*10∧cur.take (n*10)=a_g l:=by
   rcases HOW.out.1.2 with⟨_,h0⟩|⟨g,cap,cur,e1,hg,hh,h1,h2,h3,h4⟩
   ·omega
   ·exact⟨g,cap,cur.toList,e1,hg,hh,h1,h2,by simpa using h3,h4⟩
  injection e1 with e1 _ e2;subst e1;subst e2;have hex:cur=a_g l++cur.drop (n*10):=by rw[← htk,List.take_append_drop]
  have HD:=Lib.hid (n_D g n c' l (cur.drop (n*10)) w.heap.size id i w1 (by rw[← hex];exact hrow) (Ords.length HRD.out) HRD.out.2.1 hnc HX1.out (by have:=HGS.out;omega) HZ.out);have HG:Hid (w.heap.size≤g):=by have:=HGS.out;show _≤_;omega
  have HL:Hid ((a_g l++cur.drop (n*10)).length=c'*10):=by show _=_;rw[← hex];exact hlen
  clear hg hrow hlen htk hex;go_wp2_with fail
  refine HD.out.mono ?_;rintro e w2 ⟨n',ex',rfl,hn',hb2,hl2,hr2,hx2⟩;have HB2:Hid (Below w.heap.size w w2):=HB1.out.trans (hb2.mono HG.out)
  have HO2:Hid (OwnK w2 w.heap.size 31 10 (.slice (some ⟨g,0,none⟩) n' c') (b_e l id).length (a_g (b_e l id))):=by
   have hl3:(b_e l id).length=n':=hl2;have hn2:n'≤maxLen:=Nat.le_trans hn' (Nat.le_trans hnc hcm);rw[hl3];refine⟨⟨by rw[a_U,hl3],.inr ⟨g,c',(a_g (b_e l id)++ex').toArray,rfl,HG.out,hr2,Nat.le_trans hn' hnc,hcm,?_,?_⟩⟩,hn2⟩
   ·rw[List.size_toArray];exact hx2.trans HL.out
   ·show((a_g (b_e l id)++ex').toArray.toList).take (n'*10)=_
    rw[List.take_left' (by rw[a_U,hl3])]
  clear hb2 hl2 hr2 hx2;go_wp2_with fail
  go_ret;exact⟨_,rfl,HB2.out,HO2.out⟩
end RepairW
namespace RepairW
open ChangeShapes WideShapes ChangeAt RowKit Mem MemI GeoMath FleetMath PlanMath CertMath AuditMath InsertMath RepairMath Rec Geo Span Deal Route Plan Cert Go.Proofs.YtkpnmpjnpcjohaaGreat.Insert
theorem s_1{o:Oper}{a:Act}{u:World}(h:o.op=.alloc 150):(execOp a.eval o).run Tryz.prog u=.ok (.value (.pointer (some ⟨u.heap.size,0,none⟩))) (u.alloc (.cells #[.int .i64 0,.int .i64 0,.int .i64 0,.int .i64 0] 150)):=by
 unfold execOp;rw[h];simp[go_sem]
theorem l_d{u:World}{g:Nat}{a0 a1 a2 a3:Value}(h:Blk u g 150 [a0,a1,a2,a3])(y:Sp4):(Instr.storeAt 150 (.pointer (some ⟨g,0,none⟩)) (sp4V y)).run Tryz.prog u=.ok () (c_v u g y):=by
 have c0:=h.cell (i:=0) rfl;have c1:=h.cell (i:=1) rfl;have c2:=h.cell (i:=2) rfl;have c3:=h.cell (i:=3) rfl;have hff:=h.free;have hcs:=a_c g;have hfs:=a_d;simp[go_sem,c0,c1,c2,c3,hff,hcs,hfs]
theorem l_e{u:World}{g:Nat}{o:FleetMath.Ord}(h:OBox u g o):(Instr.loadAt 31 (.pointer (some ⟨g,0,none⟩))).run Tryz.prog u=.ok (ordV o) u:=by
 obtain⟨h0,h1,h2,h3,h4,h5,h6,h7,h8,h9⟩:=h.cells;simp[go_sem,h0,h1,h2,h3,h4,h5,h6,h7,h8,h9]
theorem r_O{P:Program}{o:Oper}{a:Act}{u:World}{f:Nat}{ts:Array TypeId}{x1 x2 x3 x4 x5 x6:Operand}{v1 v2 v3 v4 v5 v6:Value}(h:o.op=.call {callee:=.value (.func f),args:=#[x1,x2,x3,x4,x5,x6],argTypes:=ts })(h1:a.eval x1=v1)(h2:a.eval x2=v2)(h3:a.eval x3=v3)(h4:a.eval x4=v4)(h5:a.eval x5=v5)(h6:a.eval x6=v6)
 (hf:(callFunc f #[v1,v2,v3,v4,v5,v6]).run P u=.ok (.enter f #[v1,v2,v3,v4,v5,v6]) u):(execOp a.eval o).run P u=.ok (.enter f #[v1,v2,v3,v4,v5,v6]) u:=by
 have hf':a.eval (.func f)=.func (.func f) #[] #[]:=rfl;obtain⟨ρ,hρ⟩:∃ρ,a.eval=ρ:=⟨_,rfl⟩;rw[hρ]at h1 h2 h3 h4 h5 h6 hf' ⊢;unfold execOp;rw[h];simp[go_sem,hf',h1,h2,h3,h4,h5,h6,hf]
structure MV(w:World)(q A:Option Addr)(n c:Nat)(A2:Option Addr)(n2 c2:Nat)(o:FleetMath.Ord)(u:World):Prop where
 old:Below w.heap.size w u
 flt:RfBox u w.heap.size q A n c A2 n2 c2
 ord:OBox u (w.heap.size+1) o
theorem MV.next{w u u':World}{q A A2:Option Addr}{n c n2 c2:Nat}{o:FleetMath.Ord}(h:MV w q A n c A2 n2 c2 o u)(hb:Below u.heap.size u u'):MV w q A n c A2 n2 c2 o u':=⟨h.old.trans (hb.mono h.old.size),h.flt.below hb,h.ord.below hb⟩
theorem MV.start(w:World)(q A:Option Addr)(n c:Nat)(A2:Option Addr)(n2 c2:Nat)(o:FleetMath.Ord):MV w q A n c A2 n2 c2 o ((w.alloc (.cells #[.pointer q,.slice A n c,.slice A2 n2 c2] 142)).alloc (.cells #[.int .i64 o.id,.int .i64 o.size,.int .i64 o.pick.place,.int .i64 o.pick.win.fr,.int .i64 o.pick.win.to,.int .i64 o.pick.serv,.int .i64 o.drop.place,.int .i64 o.drop.win.fr,.int .i64 o.drop.win.to,.int .i64 o.drop.serv] 31)):=by
 have b0:∀(u:World) (ob:Obj),Below u.heap.size u (u.alloc ob):=fun u ob=>(Below.refl _ _).alloc (Nat.le_refl _) _;have f0:=RfBox.new w q A n c A2 n2 c2;obtain⟨w1,h1⟩:∃u,w.alloc (.cells #[.pointer q,.slice A n c,.slice A2 n2 c2] 142)=u:=⟨_,rfl⟩;have z1:w1.heap.size=w.heap.size+1:=by rw[← h1];simp
 have o1:Below w.heap.size w w1:=by rw[← h1];exact b0 _ _
 rw[h1]at f0 ⊢;have f1:OBox (w1.alloc (.cells #[.int .i64 o.id,.int .i64 o.size,.int .i64 o.pick.place,.int .i64 o.pick.win.fr,.int .i64 o.pick.win.to,.int .i64 o.pick.serv,.int .i64 o.drop.place,.int .i64 o.drop.win.fr,.int .i64 o.drop.win.to,.int .i64 o.drop.serv] 31)) w1.heap.size o:=Blk.new w1 _ _;rw[z1]at f1;have o2:Below w1.heap.size w1 (w1.alloc (.cells #[.int .i64 o.id,.int .i64 o.size,.int .i64 o.pick.place,.int .i64 o.pick.win.fr,.int .i64 o.pick.win.to,.int .i64 o.pick.serv,.int .i64 o.drop.place,.int .i64 o.drop.win.fr,.int .i64 o.drop.win.to,.int .i64 o.drop.serv] 31)):=b0 _ _;exact⟨o1.trans (o2.mono (by omega)),f0.below o2,f1⟩
def s_2(w:World)(r:List Rte×Nat)(e:Ending)(w':World):Prop:=∃B k c' l',e=.returned (.tuple #[.slice B k c',.int .i64 ((r.2:Nat):Int)])∧Below w.heap.size w w'∧Plns w' w'.heap.size B k l'∧l'.map (·.rt)=r.1∧k≤c'
theorem l_f(base:Nat)(q:Option Addr)(m:Option Mp)(A:Option Addr)(n c:Nat)(ds:List Drv)(A2:Option Addr)(n2 c2:Nat)(os:List FleetMath.Ord)(A3:Option Addr)(n3 c3:Nat)(l:List RM)(o:FleetMath.Ord)(b:Nat)(r:List Rte×Nat)(w:World)(hnc:n≤c)(hnc2:n2≤c2)(hnc3:n3≤c3)
 (h:MapP w 92 base (.pointer q) m) (hd:Drvs w w.heap.size A n ds) (ho:Ords w w.heap.size A2 n2 os) (hl:Plns w w.heap.size A3 n3 l) (h80:n2*80≤140737488351232) (hrp:a_h (l.map (·.rt))=true) (hid:1≤o.id∧o.id≤1000000) (hr:g_D m ds os (l.map (·.rt)) o (b:Int)=r):
 Calls Tryz.prog 196 #[rfV q A n c A2 n2 c2,.slice A3 n3 c3,ordV o,.int .i64 (b:Int)] w (s_2 w r):=by
 have HM:=Lib.hid h;have HD:=Lib.hid hd;have HO:=Lib.hid ho;have HP:=Lib.hid hl;have hlen:=Plns.length hl;have hn8:n3≤8:=by have:=b_2 hrp;rw[List.length_map,hlen]at this;exact this
 have hw1:∀r∈l,∀s∈r.rt.stops,(Lit.int .i64 s.ord).wf=true:=fun r hr' s hs=>i_b (c_s (a_R hrp (List.mem_map_of_mem hr')) hs);have HW1:=Lib.hid hw1;have hlo:os.length=n2:=Ords.length ho;obtain⟨⟨s,nn,ee⟩,hc⟩:∃z,a_2 m ds (b_e os o.id) (a_b (l.map (·.rt)) [o.id]) o (b:Int)=z:=⟨_,rfl⟩;have hst:=d_e hc (by omega);have HC:=Lib.hid hc;obtain⟨OO,hOO⟩:∃x,b_e os o.id=x:=⟨_,rfl⟩;have hle:OO.length≤n2:=by rw[← hOO,←hlo];exact List.length_filter_le _ _
 have HOO:=Lib.hid hOO;obtain⟨n',hn'⟩:∃n':Nat,nn=(n':Int):=⟨nn.toNat,by omega⟩;subst hn';have HCO:Hid (a_2 m ds OO (a_b (l.map (·.rt)) [o.id]) o (b:Int)=(s,(n':Int),ee)):=by show _=_;rw[← hOO];exact hc
 have HR:Hid ((if ee=0 then(b_U (a_b (l.map (·.rt)) [o.id]) o.id ⟨s.drv,s.pick,s.drop⟩).getD []else l.map (·.rt),n')=r):=by
  show _=_;rw[← hr];unfold g_D;rw[hc];simp only[Int.toNat_natCast]
 have HS0:=Lib.hid (MV.start w q A n c A2 n2 c2 o);clear h hd ho hl hc hOO hr hw1 hst hlen hlo;have hw2:∀z∈[o.id],(Lit.int .i64 z).wf=true:=fun z hz=>by rw[List.mem_singleton.1 hz];exact i_b hid
 have HW2:=Lib.hid hw2;clear hw2;go_enter Tryz.func196,Tryz.ntmps196;go_upto_region 1 with fail
 (try simp only[World.size_alloc,Nat.add_assoc,Nat.reduceAdd])
 obtain⟨X,hX⟩:∃u,((w.alloc (.cells #[.pointer q,.slice A n c,.slice A2 n2 c2] 142)).alloc (.cells #[.int .i64 o.id,.int .i64 o.size,.int .i64 o.pick.place,.int .i64 o.pick.win.fr,.int .i64 o.pick.win.to,.int .i64 o.pick.serv,.int .i64 o.drop.place,.int .i64 o.drop.win.fr,.int .i64 o.drop.win.to,.int .i64 o.drop.serv] 31))=u:=⟨_,rfl⟩;rw[hX]at HS0 ⊢;clear hX;have bx:Below X.heap.size X (X.alloc (.cells #[.int .i64 o.id] 3)):=(Below.refl _ _).alloc (Nat.le_refl _) _;have HS1:=Lib.hid (HS0.out.next bx);have HIN:Hid (Ints (X.alloc (.cells #[.int .i64 o.id] 3)) (X.alloc (.cells #[.int .i64 o.id] 3)).heap.size (some ⟨X.heap.size,0,none⟩) 1 [o.id]):=(Blk.new X 3 [.int .i64 o.id]).reads (n:=1) (by simp) (by unfold maxLen;omega);obtain⟨o0,-⟩:=HS0.out.ord.cells;clear bx;go_wp2_with fail
 refine(g_c w _ A3 n3 c3 l (some ⟨X.heap.size,0,none⟩) 1 1 [o.id] _ (by exact(HP.out.keep HS1.out.old).more HS1.out.old.size) (by omega) (by exact HIN.out) HW1.out HW2.out (by exact HS1.out.old) rfl).mono ?_;rintro e w2 ⟨B3,c4,l4,rfl,hb2,-,hp4,he4,hl4,hnew⟩
 have hk4:(a_b (l.map (·.rt)) [o.id]).length≤c4:=by
  obtain⟨A',c',e',h1,_⟩:=hnew.own.read;injection e' with _ e2 e3;omega
 obtain⟨k3,hk3⟩:∃k,(a_b (l.map (·.rt)) [o.id]).length=k:=⟨_,rfl⟩;rw[hk3]at hp4 hl4 hk4 ⊢;clear hk3;have HM2:=Lib.hid (HS1.out.next hb2);have HP4:=Lib.hid hp4;have HE4:=Lib.hid he4;clear hb2 hp4 he4 hnew HS0 HS1 HIN o0 hl4
 have HOT:Hid (∀ u,Below w2.heap.size w2 u→Calls Tryz.prog 235 #[.slice A2 n2 c2,.int .i64 o.id] u fun en u'=>∃v,en=.returned v∧Below u.heap.size u u'∧OwnK u' u.heap.size 31 10 v OO.length (a_g OO)):=fun u hu=>by
  have hou:=HM2.out.old.trans (hu.mono HM2.out.old.size);have h1:=j_y A2 n2 c2 os o.id u (Recs.more (Recs.keep HO.out hou) hou.size) h80;rw[HOO.out]at h1;exact h1
 have HCH:Hid (∀ u A9 c9,OO.length≤c9→Recs u u.heap.size A9 OO.length 10 (a_g OO)→Below w2.heap.size w2 u→Calls Tryz.prog 91 #[.pointer q,.slice A n c,.slice A9 OO.length c9,.slice B3 k3 c4,ordV o,.int .i64 (b:Int)] u fun en u'=>en=.returned (c_g (s,(n':Int),ee))∧Below u.heap.size u u'):=fun u A9 c9 hc9 hr9 hu=>by
  have hou:=HM2.out.old.trans (hu.mono HM2.out.old.size);have h1:=e_n base (.pointer q) m A n c ds A9 OO.length c9 OO B3 k3 c4 l4 o (b:Int) u (HM.out.keep hou) (Recs.more (Recs.keep HD.out hou) hou.size) hr9 ((HP4.out.keep hu).more hu.size) hnc hc9 hk4 (by omega);rw[HE4.out,HCO.out]at h1;exact h1
 go_upto_region 2 with fail
 go_cut [11,12,13]from 11 to 37 (fun pv nv ev wx=>nv=.int .i64 (n':Int)∧ev=.int .i64 ee∧Hid (Below w2.heap.size w2 wx)∧∃g,pv=.pointer (some ⟨g,0,none⟩)∧Hid (S4Box wx g s))
 case first=>
  refine a_s (mixRF w2.heap.size [22,23,24,25,26,27,28,29,30,31,32,33,34,21,35,36,37,11,11,12,13] [.pointer (some ⟨w.heap.size,0,none⟩),.pointer q,.pointer (some ⟨w.heap.size,1,none⟩),.slice A n c,.pointer (some ⟨w.heap.size,2,none⟩),.slice A2 n2 c2,.pointer (some ⟨w.heap.size+1,0,none⟩),.int .i64 o.id,undef,.slice B3 k3 c4,ordV o,.int .i64 (b:Int),c_g (s,(n':Int),ee),c_g (s,(n':Int),ee),sp4V s,.int .i64 (n':Int),.int .i64 ee,undef,undef,.int .i64 (n':Int),.int .i64 ee] [⟨8,10,31,OO.length,a_g OO⟩] [⟨17,18,150,[.int .i64 0,.int .i64 0,.int .i64 0,.int .i64 0],[.int .i64 s.drv,.int .i64 s.pick,.int .i64 s.drop,.int .i64 s.cost]⟩]) (by kernel_rfl) (by kernel_rfl) (by kernel_rfl) (mixRF.free (by kernel_rfl)) (by kernel_rfl) mixRF.mon ?_ ?_
  ·refine⟨?_,?_,?_,?_,?_,?_,?_,?_,?_,?_,?_,?_,?_,?_,?_,?_,?_,?_,?_,?_,?_,trivial⟩
   ·exact mixRF.pureStep rfl 22 rfl rfl (by simp) (by kernel_rfl) _ rfl fun listed a u D hI hr hn=>l_1 rfl (hI.out 4 (by kernel_rfl))
   ·exact mixRF.pureStep rfl 23 rfl rfl (by simp) (by kernel_rfl) _ rfl fun listed a u D hI hr hn=>a_f rfl (mixRF.val hI hr hn 0 (by kernel_rfl) (by kernel_rfl) rfl rfl) (run_load_mp (HM2.out.next (OneR.below_drew hI.old)).flt.cells.1)
   ·exact mixRF.pureStep rfl 24 rfl rfl (by simp) (by kernel_rfl) _ rfl fun listed a u D hI hr hn=>i_j rfl (hI.out 4 (by kernel_rfl))
   ·exact mixRF.pureStep rfl 25 rfl rfl (by simp) (by kernel_rfl) _ rfl fun listed a u D hI hr hn=>a_f rfl (mixRF.val hI hr hn 2 (by kernel_rfl) (by kernel_rfl) rfl rfl) (c_A _ (.inl rfl) (HM2.out.next (OneR.below_drew hI.old)).flt.cells.2.1)
   ·exact mixRF.pureStep rfl 26 rfl rfl (by simp) (by kernel_rfl) _ rfl fun listed a u D hI hr hn=>l_2 rfl (hI.out 4 (by kernel_rfl))
   ·exact mixRF.pureStep rfl 27 rfl rfl (by simp) (by kernel_rfl) _ rfl fun listed a u D hI hr hn=>a_f rfl (mixRF.val hI hr hn 4 (by kernel_rfl) (by kernel_rfl) rfl rfl) (c_A _ (.inr (.inl rfl)) (HM2.out.next (OneR.below_drew hI.old)).flt.cells.2.2)
   ·exact mixRF.pureStep rfl 28 rfl rfl (by simp) (by kernel_rfl) _ rfl fun listed a u D hI hr hn=>a_H rfl (hI.out 6 (by kernel_rfl)) (by simp[go_sem])
   ·exact mixRF.pureStep rfl 29 rfl rfl (by simp) (by kernel_rfl) _ rfl fun listed a u D hI hr hn=>a_f rfl (mixRF.val hI hr hn 6 (by kernel_rfl) (by kernel_rfl) rfl rfl) (c_y (HM2.out.next (OneR.below_drew hI.old)).ord.cells.1)
   ·exact mixRF.callRow (x:=⟨8,10,31,OO.length,a_g OO⟩) rfl 30 rfl rfl (by simp) rfl rfl rfl (Nat.le_refl _) fun listed a u D hI hr hn=>⟨_,_,b_5 rfl (mixRF.val hI hr hn 5 (by kernel_rfl) (by kernel_rfl) rfl rfl) (mixRF.val hI hr hn 7 (by kernel_rfl) (by kernel_rfl) rfl rfl) (by simp[go_sem]),HOT.out _ (OneR.below_drew hI.old)⟩
   ·exact mixRF.pureStep rfl 31 rfl rfl (by simp) (by kernel_rfl) _ rfl fun listed a u D hI hr hn=>a_a (.inl rfl) (hI.out 10 (by kernel_rfl))
   ·exact mixRF.pureStep rfl 32 rfl rfl (by simp) (by kernel_rfl) _ rfl fun listed a u D hI hr hn=>a_f rfl (hI.out 6 (by kernel_rfl)) (l_e (HM2.out.next (OneR.below_drew hI.old)).ord)
   ·exact mixRF.pureStep rfl 33 rfl rfl (by simp) (by kernel_rfl) _ rfl fun listed a u D hI hr hn=>a_a (.inl rfl) (hI.out 3 (by kernel_rfl))
   ·refine mixRF.callV rfl 34 rfl rfl (by simp) (by kernel_rfl) _ rfl fun listed a u D hI hr hn=>?_
    obtain⟨A9,c9,e9,hc9,hr9⟩:=mixRF.row (x:=⟨8,10,31,OO.length,a_g OO⟩) hI hr hn 8 (by kernel_rfl) rfl rfl rfl (s:=30) rfl;exact⟨_,_,r_O rfl (mixRF.val hI hr hn 1 (by kernel_rfl) (by kernel_rfl) rfl rfl) (mixRF.val hI hr hn 3 (by kernel_rfl) (by kernel_rfl) rfl rfl) e9 (mixRF.val hI hr hn 9 (by kernel_rfl) (by kernel_rfl) rfl rfl) (mixRF.val hI hr hn 10 (by kernel_rfl) (by kernel_rfl) rfl rfl) (mixRF.val hI hr hn 11 (by kernel_rfl) (by kernel_rfl) rfl rfl) (by simp[go_sem]),HCH.out u A9 c9 hc9 hr9 (OneR.below_drew hI.old)⟩
   ·exact mixRF.pureStep rfl 21 rfl rfl (by simp) (by kernel_rfl) _ rfl fun listed a u D hI hr hn=>a_a (.inl rfl) (mixRF.val hI hr hn 12 (by kernel_rfl) (by kernel_rfl) rfl rfl)
   ·exact mixRF.pureStep rfl 35 rfl rfl (by simp) (by kernel_rfl) _ rfl fun listed a u D hI hr hn=>a_6 rfl (mixRF.val hI hr hn 13 (by kernel_rfl) (by kernel_rfl) rfl rfl) rfl
   ·exact mixRF.pureStep rfl 36 rfl rfl (by simp) (by kernel_rfl) _ rfl fun listed a u D hI hr hn=>a_6 rfl (mixRF.val hI hr hn 13 (by kernel_rfl) (by kernel_rfl) rfl rfl) rfl
   ·exact mixRF.pureStep rfl 37 rfl rfl (by simp) (by kernel_rfl) _ rfl fun listed a u D hI hr hn=>a_6 rfl (mixRF.val hI hr hn 13 (by kernel_rfl) (by kernel_rfl) rfl rfl) rfl
   ·exact mixRF.allocStep (b:=⟨17,18,150,[.int .i64 0,.int .i64 0,.int .i64 0,.int .i64 0],[.int .i64 s.drv,.int .i64 s.pick,.int .i64 s.drop,.int .i64 s.cost]⟩) rfl 11 rfl rfl (by simp) rfl fun a u=>s_1 rfl
   ·exact mixRF.storeStep (b:=⟨17,18,150,[.int .i64 0,.int .i64 0,.int .i64 0,.int .i64 0],[.int .i64 s.drv,.int .i64 s.pick,.int .i64 s.drop,.int .i64 s.cost]⟩) rfl rfl rfl rfl rfl rfl rfl rfl (by kernel_rfl) fun listed a u D hI hr hn g e1 hb=>⟨_,b_m rfl e1 (mixRF.val hI hr hn 14 (by kernel_rfl) (by kernel_rfl) rfl rfl) (l_d hb s),((((Only.refl _ _).set _ _).set _ _).set _ _).set _ _,((((hb.put 0 _).put 1 _).put 2 _).put 3 _)⟩
   ·exact mixRF.pureStep rfl 12 rfl rfl (by simp) (by kernel_rfl) _ rfl fun listed a u D hI hr hn=>a_a (.inr rfl) (mixRF.val hI hr hn 15 (by kernel_rfl) (by kernel_rfl) rfl rfl)
   ·exact mixRF.pureStep rfl 13 rfl rfl (by simp) (by kernel_rfl) _ rfl fun listed a u D hI hr hn=>a_a (.inr rfl) (mixRF.val hI hr hn 16 (by kernel_rfl) (by kernel_rfl) rfl rfl)
  ·intro listed a u D hI hall
   have eR0:a.tmps.getD 12 undef=.int .i64 (n':Int):=mixRF.at_end hI hall 19 (by decide) (by kernel_rfl) rfl rfl;have eR1:a.tmps.getD 13 undef=.int .i64 ee:=mixRF.at_end hI hall 20 (by decide) (by kernel_rfl) rfl rfl;obtain⟨gt,eB,hbx⟩:=mixRF.box (b:=⟨17,18,150,[.int .i64 0,.int .i64 0,.int .i64 0,.int .i64 0],[.int .i64 s.drv,.int .i64 s.pick,.int .i64 s.drop,.int .i64 s.cost]⟩) hI hall 18 (by decide) rfl rfl (s:=11) rfl;have hold:=OneR.below_drew hI.old;have hl:=hI.fill [22,23,24,25,26,27,28,29,30,31,32,33,34,21,35,36,37,11,12,13] (by kernel_rfl);clear hI hall;obtain⟨σ,hσ⟩:∃σ:Nat→Value,∀t,a.tmps.getD t undef=σ t:=⟨_,fun _=>rfl⟩;simp only[hσ]at hl eR0 eR1 eB;clear hσ;simp only[List.foldl_cons,List.foldl_nil,List.setIfInBounds_toArray,List.set_cons_zero,List.set_cons_succ,eR0,eR1,eB]at hl;subst hl;go_wp2_with fail
   go_meet
   exact⟨rfl,rfl,hold,gt,rfl,hbx⟩
 case rest=>
  obtain⟨rfl,rfl,hb6,g6,rfl,hbx⟩:=hcut;obtain⟨w6,rfl⟩:∃u,u=wc:=⟨_,rfl⟩;have HM6:=Lib.hid (HM2.out.next hb6.out);have HP6:Hid (Plns w6 w6.heap.size B3 k3 l4):=(HP4.out.keep hb6.out).more hb6.out.size;clear HOT HCH hb6 HM2 HP4;by_cases he:ee=0
  case neg=>
   have e1:(ee != 0)=true:=by simpa using he
   have HR':Hid ((l.map (·.rt),n')=r):=by have h1:=HR.out;rw[if_neg he]at h1;exact h1
   clear he;go_wp2_with fail
   refine bodyPost_ret (v:=.tuple #[.slice A3 n3 c3,.int .i64 (n':Int)]) ?_ rfl ⟨A3,n3,c3,l,by rw[← HR'.out],HM6.out.old,(HP.out.keep HM6.out.old).more HM6.out.old.size,by rw[← HR'.out],hnc3⟩;simp[results,Tryz.results196,go_sem]
  subst he;have e1:((0:Int) != 0)=false:=rfl;obtain⟨p',hp',-,-⟩:=i_M HC.out;have HR':Hid ((p',n')=r):=by have h1:=HR.out;rw[if_pos rfl,hp']at h1;exact h1
  have HQ:Hid (b_U (l4.map (·.rt)) o.id ⟨s.drv,s.pick,s.drop⟩=some p'):=by show _=_;rw[HE4.out];exact hp'
  obtain⟨o0,-⟩:=HM6.out.ord.cells;obtain⟨x0,x1,x2,x3⟩:=S4Box.cells hbx.out;clear hp' hbx;go_wp2_with fail
  refine(r_r w _ B3 k3 c4 l4 o.id ⟨s.drv,s.pick,s.drop⟩ s.cost p' (by exact HP6.out) (by exact HM6.out.old) HQ.out).mono ?_;rintro e w7 ⟨B7,c7,l7,rfl,hb7,hb7',hp7,he7,hl7,hnew⟩
  have hk7:p'.length≤c7:=by
   obtain⟨A',c',e',h1,_⟩:=hnew.own.read;injection e' with _ e2 e3;omega
  have HP7:=Lib.hid hp7;have HE7:=Lib.hid he7;have HB7:=Lib.hid hb7';clear hb7 hb7' hp7 he7 hl7 hnew o0 x0 x1 x2 x3 HP6 HM6 e1;go_wp2_with fail
  refine bodyPost_ret (v:=.tuple #[.slice B7 p'.length c7,.int .i64 (n':Int)]) ?_ rfl ⟨B7,p'.length,c7,l7,by rw[← HR'.out],HB7.out,HP7.out,by rw[← HR'.out];exact HE7.out,hk7⟩;simp[results,Tryz.results196,go_sem]
end RepairW
namespace RepairW
open ChangeShapes WideShapes ChangeAt RowKit Shelf Mem GeoMath FleetMath PlanMath CertMath InsertMath RepairMath Rec Geo Span Deal Route Plan Cert Go.Proofs.YtkpnmpjnpcjohaaGreat.Insert
attribute [local go_sem] Oper.semAt_some
theorem n_E(A:Option Addr)(n c:Nat)(w:World):Calls Tryz.prog 231 #[.slice A n c] w fun e w'=>e=.returned (.func (.func 252) #[] #[.pointer (some ⟨w.heap.size,0,none⟩)])∧w'=w.alloc (.cells #[.slice A n c] 40):=by
 go_enter Tryz.func231,Tryz.ntmps231;have hmf:∀(fn:Fn) (first cap:Array Value) (w:World),(Instr.makeFunc fn first cap).run Tryz.prog w=.ok (.func fn first cap) w:=fun _ _ _ _=>rfl;go_wp2_with fail
 go_ret;exact⟨rfl,rfl⟩
abbrev encO(o:FleetMath.Ord):Array Value:=#[ordV o]
theorem n_F(k l g B:Nat)(hk:1≤k)(A:Option Addr)(n c:Nat)(xs:List FleetMath.Ord)(J Jx:List FleetMath.Ord→World→Prop)
 (hY:∀pre x W,J pre W→pre.length<n→YieldAt Fence.wide (k-1) Tryz.prog l (encO x) W fun e W'=>
   (e=.returned (.bool true)∧J (pre++[x]) W'∧Below B W W')∨(e=.returned (.bool false)∧Jx (pre++[x]) W'))
 (W:World) (hJ:AbidesFrom W.heap.size J) (hb:W.cell? ⟨g,0,none⟩=some (.slice A n c)) (hgB:g<B) (hBW:B≤W.heap.size) (hl:Ords W B A n xs) (h0:J [] W):
 CallsIn Fence.wide k Tryz.prog 252 #[.func (.yield l) #[] #[],.pointer (some ⟨g,0,none⟩)] W fun e W'=>(∃ v,e=.returned v)∧((∃ ys,ys=xs∧J ys W')∨(∃ pre,pre <+: xs∧Jx pre W')):=by
 have hm:=Recs.le hl;have HY:=Lib.hid hY;have HJ:=Lib.hid hJ;have HI:=Lib.hid hl;have HL:=Lib.hid (Ords.length hl);have H0:=Lib.hid h0;clear hY hJ hl h0;refine callsIn_of_wp Tryz.func252 rfl trivial ?_ rfl;simp only[Tryz.ntmps252,List.size_toArray,List.length_cons,List.length_nil,Nat.reduceAdd,Nat.reduceSub,Array.replicate_succ,Array.replicate_zero,List.push_toArray,List.append_toArray,List.nil_append,List.cons_append];gi_wp2
 clear hb;gi_loopw [7] (fun iv wr=>∃i:Nat,i≤n∧iv=.int .i64 (i:Int)∧Hid (Below B W wr)∧Hid (J (xs.take i) wr)) (fun iv _=>n-(intOf iv).toNat)
 case atStart=>exact⟨0,Nat.zero_le _,rfl,Below.refl _ _,H0⟩
 case round=>
  clear H0;obtain⟨i,hi,rfl,HB,HJI⟩:=hrel;by_cases hlt:i<n
  case neg=>
   have HE:Hid (J xs wr):=by
    have h:=HJI.out;rw[List.take_of_length_le (by have:=HL.out;omega)]at h;exact h
   have e1:¬(i:Int)<(n:Int):=by omega
   clear hlt HJI;gi_wp2
   go_end0
   exact⟨⟨_,rfl⟩,.inl HE.out⟩
  have e1:(i:Int)<(n:Int):=by omega
  obtain⟨bb,off,x,rfl,hbb,ho,hdr,c0,c1,c2,c3,c4,c5,c6,c7,c8,c9⟩:=Ords.at_ (Recs.keep HI.out HB.out) hlt;have HO:=Lib.hid ho;have b0:Below wr.heap.size wr (wr.alloc (.cells #[.int .i64 x.id,.int .i64 x.size,.int .i64 x.pick.place,.int .i64 x.pick.win.fr,.int .i64 x.pick.win.to,.int .i64 x.pick.serv,.int .i64 x.drop.place,.int .i64 x.drop.win.fr,.int .i64 x.drop.win.to,.int .i64 x.drop.serv] 31)):=(Below.refl _ _).alloc (Nat.le_refl _) _;have hsz:B≤wr.heap.size:=Nat.le_trans hBW HB.out.size;have HB1:Hid (Below B W (wr.alloc (.cells #[.int .i64 x.id,.int .i64 x.size,.int .i64 x.pick.place,.int .i64 x.pick.win.fr,.int .i64 x.pick.win.to,.int .i64 x.pick.serv,.int .i64 x.drop.place,.int .i64 x.drop.win.fr,.int .i64 x.drop.win.to,.int .i64 x.drop.serv] 31))):=HB.out.trans (b0.mono hsz);have HX1:Hid (OBox (wr.alloc (.cells #[.int .i64 x.id,.int .i64 x.size,.int .i64 x.pick.place,.int .i64 x.pick.win.fr,.int .i64 x.pick.win.to,.int .i64 x.pick.serv,.int .i64 x.drop.place,.int .i64 x.drop.win.fr,.int .i64 x.drop.win.to,.int .i64 x.drop.serv] 31)) wr.heap.size x):=Blk.new wr _ _;have HJ1:Hid (J (xs.take i) (wr.alloc (.cells #[.int .i64 x.id,.int .i64 x.size,.int .i64 x.pick.place,.int .i64 x.pick.win.fr,.int .i64 x.pick.win.to,.int .i64 x.pick.serv,.int .i64 x.drop.place,.int .i64 x.drop.win.fr,.int .i64 x.drop.win.to,.int .i64 x.drop.serv] 31))):=HJ.out _ wr _ none HJI.out (World.grownBy_alloc wr _ none) (fun r e=>by cases e);clear ho hdr b0 HJI;gi_upto_region 3 with fail
  clear c0 c1 c2 c3 c4 c5 c6 c7 c8 c9;obtain⟨w1,hw1⟩:∃u,wr.alloc (.cells #[.int .i64 x.id,.int .i64 x.size,.int .i64 x.pick.place,.int .i64 x.pick.win.fr,.int .i64 x.pick.win.to,.int .i64 x.pick.serv,.int .i64 x.drop.place,.int .i64 x.drop.win.fr,.int .i64 x.drop.win.to,.int .i64 x.drop.serv] 31)=u:=⟨_,rfl⟩;obtain⟨g1,hg1⟩:∃v,wr.heap.size=v:=⟨_,rfl⟩;rw[hw1]at HB1 HX1 HJ1 ⊢;rw[hg1]at HX1 ⊢;clear hw1 hg1 HB hsz
  have HN:Hid (xs.take i++[x]=xs.take (i+1)):=by
   show _=_;rw[List.take_add_one,HO.out];rfl
  obtain⟨fn,tmps,assign,body,hy,hR⟩:=HY.out (xs.take i) x w1 HJ1.out (by rw[List.length_take];omega);dsimp only[encO]at hy;rw[HN.out]at hR;have HR:=Lib.hid hR;obtain⟨x0,x1,x2,x3,x4,x5,x6,x7,x8,x9⟩:=HX1.out.cells;clear hR;gi_wp2
  refine HR.out.mono ?_;rintro e W3 (⟨rfl,hJ3,hk3⟩|⟨rfl,hJx3⟩)
  ·have HB3:Hid (Below B W W3):=HB1.out.trans hk3
   have HJ3:=Lib.hid hJ3;clear hJ3 hk3 HB1 HX1 HJ1 hy HR x0 x1 x2 x3 x4 x5 x6 x7 x8 x9;gi_wp2
   go_roundw
   case rel=>exact⟨i+1,by omega,by go_num,HB3,HJ3⟩
   case measure=>simp[intOf];omega
  ·have HJ3:=Lib.hid hJx3
   clear hJx3 HB1 HX1 HJ1 hy HR x0 x1 x2 x3 x4 x5 x6 x7 x8 x9;gi_wp2
   refine bodyPost_ret (results_none rfl _ _ _) rfl ?_;exact⟨⟨_,rfl⟩,.inr ⟨_,List.take_prefix _ _,HJ3.out⟩⟩
theorem j_z(k g B:Nat)(hk:1≤k)(A:Option Addr)(n c:Nat)(xs:List FleetMath.Ord)(w:World)(hb:w.cell? ⟨g,0,none⟩=some (.slice A n c))(hgB:g<B)(hBw:B≤w.heap.size)(hl:Ords w B A n xs):
 SeqStopsK Fence.wide k Tryz.prog 252 #[.pointer (some ⟨g,0,none⟩)] encO (Below B) (fun ys=>ys=xs) (fun pre=>pre <+: xs) n w:=
 fun l J Jx W hW hJ _ hY h0=>n_F k l g B hk A n c xs J Jx hY W hJ ((hW.cell (by show g<w.heap.size;omega)).trans hb) hgB (Nat.le_trans hBw hW.size) (hl.keep (hW.mono hBw)) h0
structure ApSt(w:World)(pre:List FleetMath.Ord)(W:World)(v:Value):Prop where
 box:Blk W w.heap.size 40 [v]
 own:OwnK W (w.heap.size+1) 31 10 v pre.length (a_g pre)
 old:Below w.heap.size w W
theorem ApSt.kept{w W W':World}{pre:List FleetMath.Ord}{v:Value}{row:Option Nat}(h:ApSt w pre W v)(hg:W.grownBy W' row)(hr:∀r,row=some r→w.heap.size+1≤r∧∃o:Obj,W.heap[r]?=some o∧o.isCells=false):ApSt w pre W' v:=by
 have hne:∀g t vs,Blk W g t vs→row≠some g:=fun g t vs hb e=>by
  obtain⟨_,o,ho,hc⟩:=hr g e;rw[show W.heap[g]?=_ from hb]at ho;cases ho;cases hc
 refine⟨(hg.block _ h.box.lt (Ne.symm (hne _ _ _ h.box))).trans h.box,h.own.other hg fun g hv=>?_,h.old.grown hg h.old.size fun k e=>by have:=(hr k e).1;omega⟩;rcases h.own.blk with⟨rfl,_⟩|⟨g',cap,cur,rfl,_,hB,_⟩
 ·cases hv
 ·have:g'=g:=by simpa[Value.ownBlock]using hv
  subst this;exact hne _ _ _ hB
theorem ApSt.start(w:World):ApSt w [] (w.alloc (.cells #[.slice none 0 0] 40)) (.slice none 0 0):=⟨Blk.new w _ _,OwnK.nil _ _ _ _,(Below.refl _ _).alloc (Nat.le_refl _) _⟩
theorem ApSt.alloc{w W:World}{pre:List FleetMath.Ord}{v:Value}(h:ApSt w pre W v)(o:Obj):ApSt w pre (W.alloc o) v:=h.kept (World.grownBy_alloc W o none) (fun r e=>by cases e)
theorem ApSt.stays{w W w1:World}{pre:List FleetMath.Ord}{v:Value}(h:ApSt w pre W v)(hg:W.grownBy w1 v.ownBlock):Blk w1 w.heap.size 40 [v]:=by
 refine(hg.block _ h.box.lt fun e=>?_).trans h.box;rcases h.own.blk with⟨rfl,_⟩|⟨g',cap,cur,rfl,hg',_⟩
 ·cases e
 ·have:w.heap.size=g':=by simpa[Value.ownBlock]using e
  omega
theorem ApSt.more{w Z U0 W w1:World}{pre:List FleetMath.Ord}{x:FleetMath.Ord}{v:Value}{g' cap':Nat}{vs:List Value}(hZ:Z.heap.size=w.heap.size+1)(h:ApSt w pre W v)(hkf:KeepsFrom Z.heap.size U0 W)(hbw:Below w.heap.size U0 W)
 (ho:w1.ownsRow (w.heap.size+1) 31 10 (.slice (some ⟨g',0,none⟩) (pre.length+1) cap') (pre.length+1) vs) (hg:W.grownBy w1 v.ownBlock) (he:vs=a_g (pre++[x])) (hm:pre.length+1≤maxLen):
 KeepsFrom Z.heap.size U0 (w1.setCell ⟨w.heap.size,0,none⟩ (.slice (some ⟨g',0,none⟩) (pre.length+1) cap'))∧Below w.heap.size U0 (w1.setCell ⟨w.heap.size,0,none⟩ (.slice (some ⟨g',0,none⟩) (pre.length+1) cap'))∧∃v,ApSt w (pre++[x]) (w1.setCell ⟨w.heap.size,0,none⟩ (.slice (some ⟨g',0,none⟩) (pre.length+1) cap')) v:=by
 have hb1:=h.stays hg
 have hcells:∀(j:Nat) (o:Obj),v.ownBlock=some j→W.heap[j]?=some o→o.isCells=true:=fun j o hj hoj=>by
  rcases h.own.blk with⟨rfl,_⟩|⟨g2,cap,cur,rfl,_,hB,_⟩
  ·cases hj
  ·have:g2=j:=by simpa[Value.ownBlock]using hj
   subst this;rw[show W.heap[g2]?=_ from hB]at hoj;cases hoj;rfl
 have hk1:KeepsFrom Z.heap.size W w1:=(KeepsOthers.of_grownBy hg hcells).from _
 have hb2:Below w.heap.size W w1:=(Below.refl _ W).grown hg h.old.size fun k e=>by
  rcases h.own.blk with⟨rfl,_⟩|⟨g2,cap,cur,rfl,h2,_⟩
  ·cases e
  ·have:g2=k:=by simpa[Value.ownBlock]using e
   omega
 have ho2:OwnK (w1.setCell ⟨w.heap.size,0,none⟩ (.slice (some ⟨g',0,none⟩) (pre.length+1) cap')) (w.heap.size+1) 31 10 (.slice (some ⟨g',0,none⟩) (pre.length+1) cap') (pre.length+1) vs:=
  OwnK.same (w:=w1) ⟨ho,hm⟩ fun k hk _=>Below.heap_setCell w1 _ _ k (by show k≠w.heap.size;omega)
 refine⟨(hkf.trans hk1).trans ((KeepsOthers.setCell _ _ _).from _),(hbw.trans hb2).setCell (Nat.le_refl _) _,_,hb1.put 0 _,?_,(h.old.trans hb2).setCell (Nat.le_refl _) _⟩;rw[← he,List.length_append];exact ho2
theorem i_p(g:Nat)(A:Option Addr)(n c:Nat)(xs:List FleetMath.Ord)(w:World)(hb:w.cell? ⟨g,0,none⟩=some (.slice A n c))(hg:g<w.heap.size)(hl:Ords w w.heap.size A n xs)(h80:n*80≤140737488351232):
 Calls Tryz.prog 256 #[.slice none 0 0,.func (.func 252) #[] #[.pointer (some ⟨g,0,none⟩)]] w fun e w'=>∃v,e=.returned v∧Below w.heap.size w w'∧OwnK w' w.heap.size 31 10 v n (a_g xs):=by
 have hlen:=Ords.length hl;have HB0:Hid (Below w.heap.size w (w.alloc (.cells #[.slice none 0 0] 40))):=(Below.refl _ _).alloc (Nat.le_refl _) _;have HA0:=Lib.hid (ApSt.start w)
 have HSQ:Hid (SeqStopsK Fence.wide (9-1) Tryz.prog 252 #[.pointer (some ⟨g,0,none⟩)] encO (Below w.heap.size) (fun ys=>ys=xs) (fun pre=>pre <+: xs) n (w.alloc (.cells #[.slice none 0 0] 40))):=
  j_z 8 g w.heap.size (by omega) A n c xs _ ((HB0.out.cell (p:=⟨g,0,none⟩) hg).trans hb) hg (by simp) (hl.keep HB0.out)
 have HLN:=Lib.hid hlen;clear hb hl hlen;obtain⟨i0,hi,hz0,hz1,hz2⟩:=info_parts b_R;refine c_V Tryz.func256 rfl ?_;simp only[Tryz.ntmps256,List.size_toArray,List.length_cons,List.length_nil,Nat.reduceAdd,Nat.reduceSub,Array.replicate_succ,Array.replicate_zero,List.push_toArray,List.append_toArray,List.nil_append,List.cons_append];go_upto_region 1 with fail
 obtain⟨Z,hZ⟩:∃u,w.alloc (.cells #[.slice none 0 0] 40)=u:=⟨_,rfl⟩;have hzs:Z.heap.size=w.heap.size+1:=by rw[← hZ];simp
 have HZ:=Lib.hid hzs;rw[hZ]at HB0 HA0 HSQ;rw[hZ];clear hZ hzs;go_wp2_with fail
 refine(wpIn_wide (n:=9)).1 ?_
 refine wpIn_rangeFunc_ownH (α:=FleetMath.Ord) (w0:=Z) rfl (by omega) (gf:=252) (lb:=#[.pointer (some ⟨g,0,none⟩)]) rfl trivial (enters_of Tryz.func252 (by kernel_rfl) rfl)
  HSQ.out (fun h k=>h.trans k) (fun W l o o' hl' hl2 hc _=>belowK_b (w:=Z) (by rw[HZ.out];omega) W l o o' hl' hl2 hc (by assumption)) (Below.refl _ _) (by intro _;rfl)
  (fun pre W=>∃v,ApSt w pre W v) (fun _ _ _=>False)
  (fun s P Q row hs hg hr=>by obtain⟨v,hs⟩:=hs;exact⟨v,hs.kept hg (fun r e=>by rw[← HZ.out];exact hr r e)⟩)
  (fun _ _ _ _ _ hs _ _=>hs) ⟨_,HA0.out⟩
  (fun x a' W=>∃Bx,w.heap.size+1≤Bx∧OBox W Bx x∧a'={tmps:=#[.slice none 0 0,.func (.func 252) #[] #[.pointer (some ⟨g,0,none⟩)],.pointer (some ⟨w.heap.size,0,none⟩),undef,.slice none 0 0,.pointer (some ⟨Bx,0,none⟩),.func (.func 252) #[] #[.pointer (some ⟨g,0,none⟩)],ordV x,undef,undef,undef,undef,undef],defers:=[] })
  (fun x a' s P Q row hs hg hr=>by
    obtain⟨Bx,h1,h2,h3⟩:=hs;refine⟨Bx,h1,(hg.block _ (Blk.lt h2) fun e=>?_).trans h2,h3⟩;obtain⟨_,o,ho,hc⟩:=hr Bx e.symm;rw[show P.heap[Bx]?=_ from h2]at ho;cases ho;cases hc)
  ?assign ?body ?done ?stop
 case assign=>
  rintro l pre x W K ⟨v,hi'⟩ hK;have hlt:w.heap.size+1≤W.heap.size:=hi'.box.lt;have HI':=Lib.hid hi';clear hi';gi_wp2
  exact hK _ _ ((KeepsOthers.alloc _ _).from _) (HI'.out.old.size|>fun hs=>((Below.refl _ W).alloc (Nat.le_refl _) _).mono hs) ⟨v,HI'.out.alloc _⟩ ⟨W.heap.size,hlt,Blk.new W _ _,rfl⟩
 case body=>
  rintro l pre x a' W hl'-⟨v,hi'⟩ ⟨Bx,hBx,hbx,rfl⟩ hlt;have hps:w.heap.size+1≤W.heap.size:=hi'.box.lt;obtain⟨Av,cv,hv,-⟩:=hi'.own.read;subst hv;have hbc:=Blk.cell (i:=0) hi'.box rfl;obtain⟨x0,x1,x2,x3,x4,x5,x6,x7,x8,x9⟩:=OBox.cells hbx;have HI1:Hid (ApSt w pre (W.alloc (.cells #[.int .i64 x.id,.int .i64 x.size,.int .i64 x.pick.place,.int .i64 x.pick.win.fr,.int .i64 x.pick.win.to,.int .i64 x.pick.serv,.int .i64 x.drop.place,.int .i64 x.drop.win.fr,.int .i64 x.drop.win.to,.int .i64 x.drop.serv] 31)) (.slice Av pre.length cv)):=hi'.alloc _;have HX1:Hid (Blk (W.alloc (.cells #[.int .i64 x.id,.int .i64 x.size,.int .i64 x.pick.place,.int .i64 x.pick.win.fr,.int .i64 x.pick.win.to,.int .i64 x.pick.serv,.int .i64 x.drop.place,.int .i64 x.drop.win.fr,.int .i64 x.drop.win.to,.int .i64 x.drop.serv] 31)) W.heap.size 31 [.int .i64 x.id,.int .i64 x.size,.int .i64 x.pick.place,.int .i64 x.pick.win.fr,.int .i64 x.pick.win.to,.int .i64 x.pick.serv,.int .i64 x.drop.place,.int .i64 x.drop.win.fr,.int .i64 x.drop.win.to,.int .i64 x.drop.serv]):=Blk.new W _ _;have HKF:Hid (KeepsFrom Z.heap.size W (W.alloc (.cells #[.int .i64 x.id,.int .i64 x.size,.int .i64 x.pick.place,.int .i64 x.pick.win.fr,.int .i64 x.pick.win.to,.int .i64 x.pick.serv,.int .i64 x.drop.place,.int .i64 x.drop.win.fr,.int .i64 x.drop.win.to,.int .i64 x.drop.serv] 31))):=(KeepsOthers.alloc _ _).from _;have HBW:Hid (Below w.heap.size W (W.alloc (.cells #[.int .i64 x.id,.int .i64 x.size,.int .i64 x.pick.place,.int .i64 x.pick.win.fr,.int .i64 x.pick.win.to,.int .i64 x.pick.serv,.int .i64 x.drop.place,.int .i64 x.drop.win.fr,.int .i64 x.drop.win.to,.int .i64 x.drop.serv] 31))):=((Below.refl _ W).alloc (Nat.le_refl _) _).mono hi'.old.size;have hn1:pre.length+1≤n:=hlt;have hmx:pre.length+1≤maxLen:=by unfold maxLen;omega
  have hbx80:(pre.length+1)*80≤140737488355328:=by omega
  clear hi' hbx;gi_wp2_with (gi_at_builtin;refine Go.wpListIn_append_own_at _ rfl (.tmp 8) (.tmp 10) 40 rfl (w.heap.size+1) 31 i0 _ 10 80 Tryz.underlying40 hi hz0 hz1 hz2 rfl (by decide) (.slice Av pre.length cv) pre.length (a_g pre) rfl HI1.out.own.1 ⟨W.heap.size,0,none⟩ 1 1 [.int .i64 x.id,.int .i64 x.size,.int .i64 x.pick.place,.int .i64 x.pick.win.fr,.int .i64 x.pick.win.to,.int .i64 x.pick.serv,.int .i64 x.drop.place,.int .i64 x.drop.win.fr,.int .i64 x.drop.win.to,.int .i64 x.drop.serv] rfl rfl (fun j q hq=>by rw[b_n,Nat.zero_add];exact HX1.out.cell hq) (by intro u hu;simp at hu;rcases hu with rfl|rfl|rfl|rfl|rfl|rfl|rfl|rfl|rfl|rfl<;>rfl) hmx hbx80 (by simp;omega) ?_;intro v' w1 hown' hgrow _ hob;obtain⟨g',cap',rfl⟩:=ownsRow_succ hown';have HOW:=Lib.hid hown';have HGR:=Lib.hid hgrow;clear hown' hgrow hob;have HB1:Hid (Blk w1 w.heap.size 40 [.slice Av pre.length cv]):=ApSt.stays HI1.out HGR.out;have hbc1:=Blk.cell (i:=0) HB1.out rfl;have hbf1:=Blk.free HB1.out 0)
  exact ApSt.more HZ.out HI1.out HKF.out HBW.out HOW.out HGR.out (show(a_g pre++[.int .i64 x.id,.int .i64 x.size,.int .i64 x.pick.place,.int .i64 x.pick.win.fr,.int .i64 x.pick.win.to,.int .i64 x.pick.serv,.int .i64 x.drop.place,.int .i64 x.drop.win.fr,.int .i64 x.drop.win.to,.int .i64 x.drop.serv])=a_g (pre++[x]) by rw[a_Z];rfl) hmx
 case done=>
  rintro D ys W hD hS ⟨v,hi'⟩ hK;have hS':ys=xs:=hS;subst hS';obtain⟨Av,cv,hv,-⟩:=hi'.own.read;subst hv;have hbc:=Blk.cell (i:=0) hi'.box rfl;have HI':=Lib.hid hi';have HK:=Lib.hid hK;have HD:=Lib.hid hD;clear hS hi' hK hD;gi_wp2_with fail
  go_wp2_with fail
  have hle:w.heap.size+1≤D:=by have h1:=HD.out;have h2:=HZ.out;omega
  have hk2:ApSt w ys (W.putObj D (.deferred none)) (.slice Av ys.length cv):=HI'.out.kept (grownBy_putObj' W D _) (fun r e=>by cases e;exact⟨hle,_,HK.out,rfl⟩);refine e_T (D:=D) rfl HK.out (v:=.slice Av ys.length cv) (by simp[results,Tryz.results256,go_sem]) ⟨_,rfl,hk2.old,?_⟩;have h3:=hk2.own.lower (show w.heap.size≤w.heap.size+1 by omega);rw[HLN.out]at h3 ⊢;exact h3
 case stop=>
  rintro D c pre W _ _ h _;exact h.elim
theorem l_g(g:Nat)(A:Option Addr)(n c:Nat)(xs:List FleetMath.Ord)(w:World)(hb:w.cell? ⟨g,0,none⟩=some (.slice A n c))(hg:g<w.heap.size)(hl:Ords w w.heap.size A n xs)(h80:n*80≤140737488351232):
 Calls Tryz.prog 250 #[.func (.func 252) #[] #[.pointer (some ⟨g,0,none⟩)]] w fun e w'=>∃v,e=.returned v∧Below w.heap.size w w'∧OwnK w' w.heap.size 31 10 v n (a_g xs):=by
 have HC:=Lib.hid (i_p g A n c xs w hb hg hl h80);clear hb hl;go_enter Tryz.func250,Tryz.ntmps250;go_wp2_with fail
 refine HC.out.mono ?_;rintro e w1 ⟨v,rfl,hb,ho⟩;have HB:=Lib.hid hb;have HO:=Lib.hid ho;clear hb ho;go_wp2_with fail
 go_ret;exact⟨v,rfl,HB.out,HO.out⟩
abbrev f_t:={o:FleetMath.Ord // 1≤o.id∧o.id≤1000000}
instance:Inhabited f_t:=⟨⟨⟨1,0,⟨0,⟨0,0⟩,0⟩,⟨0,⟨0,0⟩,0⟩⟩,by simp⟩⟩
def encI(x:f_t):List Value:=[.int .i64 x.1.id,.int .i64 x.1.size,.int .i64 x.1.pick.place,.int .i64 x.1.pick.win.fr,.int .i64 x.1.pick.win.to,.int .i64 x.1.pick.serv,.int .i64 x.1.drop.place,.int .i64 x.1.drop.win.fr,.int .i64 x.1.drop.win.to,.int .i64 x.1.drop.serv]
def cfI(x y:f_t):Int:=x.1.id-y.1.id
theorem swoI:Go.Sort.SWO (Go.Proofs.ltOf cfI) where
 irrefl x:=decide_eq_false (by unfold cfI;omega)
 trans x y z h1 h2:=by
  have h3:=of_decide_eq_true h1;have h4:=of_decide_eq_true h2;unfold cfI at h3 h4;exact decide_eq_true (by unfold cfI;omega)
 ntrans x y z h1 h2:=by
  have h3:=of_decide_eq_false h1;have h4:=of_decide_eq_false h2;unfold cfI at h3 h4;exact decide_eq_false (by unfold cfI;omega)
theorem p_3(x y:f_t)(W:World):Calls Tryz.prog 232 #[.agg #[.int .i64 x.1.id,.int .i64 x.1.size,.int .i64 x.1.pick.place,.int .i64 x.1.pick.win.fr,.int .i64 x.1.pick.win.to,.int .i64 x.1.pick.serv,.int .i64 x.1.drop.place,.int .i64 x.1.drop.win.fr,.int .i64 x.1.drop.win.to,.int .i64 x.1.drop.serv],.agg #[.int .i64 y.1.id,.int .i64 y.1.size,.int .i64 y.1.pick.place,.int .i64 y.1.pick.win.fr,.int .i64 y.1.pick.win.to,.int .i64 y.1.pick.serv,.int .i64 y.1.drop.place,.int .i64 y.1.drop.win.fr,.int .i64 y.1.drop.win.to,.int .i64 y.1.drop.serv]] W fun e w'=>e=.returned (.int .i64 (x.1.id-y.1.id))∧∃q os',w'=Go.Sort.grow (W.drewN q) os':=by
 have hw:IntKind.i64.wrap (x.1.id-y.1.id)=x.1.id-y.1.id:=IntWalk.i64_in _ (by have:=x.2;have:=y.2;omega);go_enter Tryz.func232,Tryz.ntmps232;go_wp2
 go_ret;exact⟨by first|rfl|rw[hw]|simp[hw],0,_,by rw[Go.Sort.alloc_eq_grow,Go.Sort.alloc_eq_grow,Go.Sort.grow_grow];rfl⟩
theorem cmpI(blk off size:Nat)(w:World):Go.Proofs.CmpLays Tryz.prog 232 #[] encI 10 cfI blk off size w:=fun _ _ _ _ x y=>p_3 x y _
theorem p_4(l:List FleetMath.Ord)(j:Nat)(h:j<l.length*10):∃o,l[j/10]?=some o∧(a_g l)[j]?=([.int .i64 o.id,.int .i64 o.size,.int .i64 o.pick.place,.int .i64 o.pick.win.fr,.int .i64 o.pick.win.to,.int .i64 o.pick.serv,.int .i64 o.drop.place,.int .i64 o.drop.win.fr,.int .i64 o.drop.win.to,.int .i64 o.drop.serv]:List Value)[j%10]? :=by
 induction l generalizing j with
 |nil=>simp at h
 |cons x r ih=>
  have e:a_g (x::r)=[.int .i64 x.id,.int .i64 x.size,.int .i64 x.pick.place,.int .i64 x.pick.win.fr,.int .i64 x.pick.win.to,.int .i64 x.pick.serv,.int .i64 x.drop.place,.int .i64 x.drop.win.fr,.int .i64 x.drop.win.to,.int .i64 x.drop.serv]++a_g r:=rfl;rw[e];by_cases hj:j<10
  ·refine⟨x,by rw[show j/10=0 by omega];rfl,?_⟩
   rw[List.getElem?_append_left (by simpa using hj),show j%10=j by omega]
  ·obtain⟨o,h1,h2⟩:=ih (j-10) (by simp only[List.length_cons]at h;omega)
   refine⟨o,by rw[show j/10=(j-10)/10+1 by omega];exact h1,?_⟩;rw[List.getElem?_append_right (by simpa using hj)];rw[show j%10=(j-10)%10 by omega];exact h2
theorem g_z(d:Array f_t):Go.Sort.flatK encI 10 d=(a_g (d.toList.map (·.1))).toArray:=by
 refine Go.Sort.ext_get! (by simp[a_U]) fun t ht=>?_;rw[Go.Sort.size_flatK]at ht;rw[Go.Sort.get_flatK _ _ _ _ ht];obtain⟨o,h1,h2⟩:=p_4 (d.toList.map (·.1)) t (by simpa using ht);have hlt:t/10<d.size:=by omega
 have h3:o=(d[t/10]!).1:=by
  rw[List.getElem?_map,Array.getElem?_toList,Array.getElem?_eq_getElem hlt]at h1;simp only[Option.map_some]at h1;injection h1 with h1;rw[getElem!_pos d (t/10) hlt,h1]
 have h4:t%10<10:=Nat.mod_lt _ (by decide);subst h3;simp only[List.getElem!_toArray];rw[List.getElem!_eq_getElem?_getD,List.getElem!_eq_getElem?_getD,h2];rfl
theorem j_A{w:World}{g:Nat}{ex:List Value}(d:Array f_t)(h:Blk w g 31 (a_g (d.toList.map (·.1))++ex)):Go.Sort.HoldsK encI 10 w g 0 d:=by
 intro j hj;rw[g_z]at hj ⊢;have hj':j<(a_g (d.toList.map (·.1))).length:=by simpa using hj
 refine⟨?_,h.free _⟩;rw[Nat.zero_add];refine h.cell ?_;rw[List.getElem?_append_left hj',List.getElem?_eq_getElem hj'];simp only[id];rw[List.getElem!_toArray,List.getElem!_eq_getElem?_getD,List.getElem?_eq_getElem hj'];rfl
theorem i_q{w:World}{g n:Nat}(d:Array f_t)(h:Go.Sort.HoldsK encI 10 w g 0 d)(hn:d.size=n)(hm:n≤maxLen):Ords w (g+1) (some ⟨g,0,none⟩) n (d.toList.map (·.1)):=by
 refine⟨by rw[a_U];simp[hn],hm,fun _=>⟨g,0,rfl,Nat.lt_succ_self _,fun j v hv=>?_⟩⟩;have hlt:=(List.getElem?_eq_some_iff.1 hv).1;have h1:=(h j (by rw[g_z];simpa using hlt)).1;rw[g_z,List.getElem!_toArray,List.getElem!_eq_getElem?_getD,hv]at h1;exact h1
theorem j_B{w:World}{g B m:Nat}{os:Array Obj}(d:Array f_t)(hg:g<w.heap.size)(hB:B≤g):Below B w (Go.Proofs.sortWorldK encI 10 w g 0 m d os):=by
 refine⟨rfl,rfl,rfl,by simp[Go.Proofs.sortWorldK,Go.Sort.putRowK,Go.Sort.grow,Go.Sort.putRow,Go.Sort.mapBlock,Go.Sort.ahead],fun k hk=>?_⟩;unfold Go.Proofs.sortWorldK Go.Sort.putRowK;rw[Go.Sort.heap_grow_old _ _ (by simp[Go.Sort.putRow,Go.Sort.mapBlock,Go.Sort.ahead];omega)];have:g≠k:=by omega
 simp[Go.Sort.putRow,Go.Sort.mapBlock,Go.Sort.ahead,Array.getElem?_modify,this]
theorem j_C{w:World}{g m:Nat}{os:Array Obj}(d0 d:Array f_t)(hg:g<w.heap.size)(h0:Go.Sort.HoldsK encI 10 w g 0 d0)(hs:d.size=d0.size):Go.Sort.HoldsK encI 10 (Go.Proofs.sortWorldK encI 10 w g 0 m d os) g 0 d:=by
 unfold Go.Proofs.sortWorldK;exact Go.Sort.holdsK_grow encI 10 _ os g 0 d (by rw[Go.Sort.size_putRowK];exact hg) (Go.Sort.holdsK_putRowK encI 10 _ g 0 d0 d (Go.Sort.holdsK_ahead encI 10 w m g 0 d0 h0) hs)
theorem t_D(l:List FleetMath.Ord)(h:∀o∈l,1≤o.id∧o.id≤1000000):∃d:Array f_t,d.toList.map (·.1)=l∧d.size=l.length:=by
 refine⟨(l.attach.map fun o=>(⟨o.1,h o.1 o.2⟩:f_t)).toArray,?_,by simp⟩;rw[List.map_map];show l.attach.map (fun o=>o.1)=l;exact List.attach_map_subtype_val l
theorem l_h{d d':Array f_t}(hp:Go.Sort.PermIn 0 d.size d d')(hs:Go.Sort.SortedIn (Go.Proofs.ltOf cfI) 0 d.size d'):d'.size=d.size∧(d'.toList.map (·.1)).Perm (d.toList.map (·.1))∧(d'.toList.map (·.1)).Pairwise fun a b=>a.id≤b.id:=by
 obtain⟨h1,_,h3⟩:=hp;have e1:d.extract 0 d.size=d:=by simp
 have e2:d'.extract 0 d.size=d':=by rw[← h1];simp
 rw[e1,e2]at h3;refine⟨h1,h3.map _,?_⟩;rw[List.pairwise_map,List.pairwise_iff_getElem];intro i j hi hj hij;have hi':i<d'.size:=by simpa using hi
 have hj':j<d'.size:=by simpa using hj
 have h:=hs i j (Nat.zero_le _) hij (by omega);rw[getElem!_pos d' i hi',getElem!_pos d' j hj']at h;have h5:=of_decide_eq_false h;unfold cfI at h5;simp only[Array.getElem_toList];omega
theorem j_D(base:Nat)(v:Value)(n:Nat)(l:List FleetMath.Ord)(w:World)(hv:OwnK w base 31 10 v n (a_g l))(h80:n*80≤140737488351232)(hid:∀o∈l,1≤o.id∧o.id≤1000000):
 Calls Tryz.prog 251 #[v,.func (.func 232) #[] #[]] w fun e w'=>e=.returned (.tuple #[])∧Below base w w'∧∃B c' l',v=.slice B n c'∧Ords w' w'.heap.size B n l'∧l'.Perm l∧l'.Pairwise fun a b=>a.id≤b.id:=by
 have hm:n≤maxLen:=hv.2;have hlen:l.length=n:=by have:=hv.len;rw[a_U]at this;omega
 have eg:∀args w,(callFunc 232 args).run Tryz.prog w=.ok (.enter 232 args) w:=enters_of Tryz.func232 (by kernel_rfl) rfl;rcases Nat.eq_zero_or_pos n with h0|h0
 ·subst h0
  obtain⟨B,c',rfl,_,hr⟩:=hv.read;have hcon:=Go.Proofs.AnyF.slices_SortFunc_none (P:=Tryz.prog) (ρ:=e_f) p_1 B c' (.func (.func 232) #[] #[]) w;change Calls Tryz.prog 251 _ _ _ at hcon;refine hcon.mono ?_;rintro e w' ⟨rfl,rfl⟩;have hl0:l=[]:=List.eq_nil_of_length_eq_zero hlen;subst hl0;exact⟨rfl,Below.refl _ _,B,c',[],rfl,hr,List.Perm.refl _,List.Pairwise.nil⟩
 ·obtain⟨d,hd1,hd2⟩:=t_D l hid
  obtain⟨g,cap,cur,rfl,hg,hrow,hnc,_,htk⟩:∃g cap cur,v=.slice (some ⟨g,0,none⟩) n cap∧base≤g∧Blk w g 31 cur∧n≤cap∧cur.length=cap*10∧cur.take (n*10)=a_g l:=by
   rcases hv.blk with⟨_,h⟩|h
   ·omega
   ·exact h
  have hex:cur=a_g (d.toList.map (·.1))++cur.drop (n*10):=by rw[hd1,←htk,List.take_append_drop]
  have hgl:=hrow.lt;have hH:Go.Sort.HoldsK encI 10 w g 0 d:=j_A (ex:=cur.drop (n*10)) d (by rw[← hex];exact hrow);have hdn:d.size=n:=by omega
  have hcon:=Go.Proofs.AnyQ.slices_SortFunc (P:=Tryz.prog) (ρ:=e_f) p_1 10 Tryz.isAgg31 Tryz.sizeOf31 encI (fun _=>rfl) (fun x u hu=>by simp[encI]at hu;rcases hu with rfl|rfl|rfl|rfl|rfl|rfl|rfl|rfl|rfl|rfl<;>rfl) cfI swoI 232 #[] g 0 cap d w eg (cmpI g 0 d.size w) hH hgl (by omega);change Calls Tryz.prog 251 _ _ _ at hcon;rw[hdn]at hcon;refine hcon.mono ?_;rintro e w' ⟨rfl,d',m,os,hp,hs,rfl⟩;rw[← hdn]at hp hs;obtain⟨h1,h2,h3⟩:=l_h hp hs;have hb:Below base w (Go.Proofs.sortWorldK encI 10 w g 0 m d' os):=j_B d' hgl hg;refine⟨rfl,hb,some ⟨g,0,none⟩,cap,d'.toList.map (·.1),rfl,?_,by rw[hd1]at h2;exact h2,h3⟩;exact(i_q d' (j_C d d' hgl hH h1) (by omega) hm).more (by have:=hb.size;omega)
theorem g_1(g:Nat)(A:Option Addr)(n c:Nat)(l:List FleetMath.Ord)(w:World)(hb:w.cell? ⟨g,0,none⟩=some (.slice A n c))(hg:g<w.heap.size)(hl:Ords w w.heap.size A n l)(h80:n*80≤140737488351232)(hid:∀o∈l,1≤o.id∧o.id≤1000000):
 Calls Tryz.prog 230 #[.func (.func 252) #[] #[.pointer (some ⟨g,0,none⟩)],.func (.func 232) #[] #[]] w fun e w'=>∃B c' l',e=.returned (.slice B n c')∧Below w.heap.size w w'∧Ords w' w'.heap.size B n l'∧l'.Perm l∧l'.Pairwise fun a b=>a.id≤b.id:=by
 have HC:=Lib.hid (l_g g A n c l w hb hg hl h80);have HID:=Lib.hid hid;clear hb hl hid;go_enter Tryz.func230,Tryz.ntmps230;go_wp2_with fail
 refine HC.out.mono ?_;rintro e w1 ⟨v,rfl,hb1,ho1⟩;have HB1:=Lib.hid hb1;have HS:=Lib.hid (j_D w.heap.size v n l w1 ho1 h80 HID.out);clear hb1 ho1 HC HID;go_wp2_with fail
 refine HS.out.mono ?_;rintro e w2 ⟨rfl,hb2,B,c',l',rfl,hr,hp,hs⟩;have HB2:Hid (Below w.heap.size w w2):=HB1.out.trans hb2;have HR:=Lib.hid hr;have HP:=Lib.hid hp;have HSS:=Lib.hid hs;clear hb2 hr hp hs HS HB1;go_wp2_with fail
 go_ret;exact⟨B,c',l',rfl,HB2.out,HR.out,HP.out,HSS.out⟩
theorem r_P(A:Option Addr)(n c:Nat)(l:List FleetMath.Ord)(w:World)(hl:Ords w w.heap.size A n l)(h80:n*80≤140737488351232)(hid:∀o∈l,1≤o.id∧o.id≤1000000):
 Calls Tryz.prog 194 #[.slice A n c] w fun e w'=>∃B c' l',e=.returned (.slice B n c')∧Below w.heap.size w w'∧Ords w' w'.heap.size B n l'∧l'.Perm l∧l'.Pairwise fun a b=>a.id≤b.id:=by
 have HB0:Hid (Below w.heap.size w (w.alloc (.cells #[.slice A n c] 40))):=(Below.refl _ _).alloc (Nat.le_refl _) _;have HX0:Hid (Blk (w.alloc (.cells #[.slice A n c] 40)) w.heap.size 40 [.slice A n c]):=Blk.new w _ _;have HC:=Lib.hid (g_1 w.heap.size A n c l (w.alloc (.cells #[.slice A n c] 40)) (HX0.out.cell rfl) HX0.out.lt (Recs.more (Recs.keep hl HB0.out) HB0.out.size) h80 hid);clear hl hid;go_enter Tryz.func194,Tryz.ntmps194;go_wp2_with fail
 refine(n_E A n c _).mono ?_;rintro e w1 ⟨rfl,rfl⟩;go_wp2_with fail
 refine HC.out.mono ?_;rintro e w2 ⟨B,c',l',rfl,hb2,hr,hp,hs⟩;have HB2:Hid (Below w.heap.size w w2):=HB0.out.trans (hb2.mono HB0.out.size);have HR:=Lib.hid hr;have HP:=Lib.hid hp;have HSS:=Lib.hid hs;clear hb2 hr hp hs HC HB0 HX0;go_wp2_with fail
 go_ret;exact⟨B,c',l',rfl,HB2.out,HR.out,HP.out,HSS.out⟩
end RepairW
end Go.Proofs.YtkpnmpjnpcjohaaGreat
