package rules

// The calls that the chapters list, with their signatures: if one is missing, or is another, this file isn't built.

import (
	"longeron/api"
	"longeron/bits"
	"longeron/commit"
	"longeron/compat"
	"longeron/crc"
	"longeron/disk"
	"longeron/ground"
	"longeron/image"
	"longeron/kernel"
	"longeron/lines"
	"longeron/link"
	"longeron/loader"
	"longeron/num"
	"longeron/op"
	"longeron/part"
	"longeron/pdu"
	"longeron/place"
	"longeron/port"
	"longeron/record"
	"longeron/run"
	"longeron/sched"
	"longeron/sha"
	"longeron/stage"
	"longeron/store"
	"longeron/table"
	"longeron/timer"
	"longeron/trace"
	"longeron/vm"
)

// Layer 1.
var (
	_ func([]byte, int, int) []byte = num.Put
	_ func([]byte, []byte) []byte   = num.Text
	_ func([]byte) *num.Reader      = num.Read
	_ func(*num.Reader, int) int    = (*num.Reader).Num
	_ func(*num.Reader, int) []byte = (*num.Reader).Text
	_ func(*num.Reader, int) []byte = (*num.Reader).Bytes
	_ func(*num.Reader) int         = (*num.Reader).Left
	_ func(*num.Reader, api.Errno)  = (*num.Reader).Fail
	_ func(*num.Reader) api.Errno   = (*num.Reader).End
)

// Layer 2.
var (
	_ func() *crc.Table                       = crc.Make
	_ func(*crc.Table, uint32, []byte) uint32 = (*crc.Table).Feed
	_ func(*crc.Table, []byte) uint32         = (*crc.Table).Sum
	_ func() uint32                           = crc.Begin
	_ func(uint32) uint32                     = crc.End
)

// Layer 3.
var (
	_ func() *sha.Hash         = sha.New
	_ func(*sha.Hash, []byte)  = (*sha.Hash).Write
	_ func(*sha.Hash) [32]byte = (*sha.Hash).Sum
	_ func(*sha.Hash) int      = (*sha.Hash).Long
	_ func([]byte) [32]byte    = sha.Of
)

// Layer 4.
var (
	_ func(int) *disk.Disk                      = disk.New
	_ func(*disk.Disk, int, []byte) api.Errno   = (*disk.Disk).Write
	_ func(*disk.Disk, int) ([]byte, api.Errno) = (*disk.Disk).Read
	_ func(*disk.Disk) api.Errno                = (*disk.Disk).Flush
	_ func(*disk.Disk, int)                     = (*disk.Disk).Fuse
	_ func(*disk.Disk, uint64)                  = (*disk.Disk).Power
	_ func(*disk.Disk) bool                     = (*disk.Disk).Down
	_ func(*disk.Disk) int                      = (*disk.Disk).Waits
	_ func(*disk.Disk) int                      = (*disk.Disk).Len
)

// Layer 5.
var (
	_ func(api.Table) bool                = table.Right
	_ func(api.Table) ([]byte, api.Errno) = table.Put
	_ func([]byte) (api.Table, api.Errno) = table.Get
	_ func(api.Table, int) int            = table.Window
	_ func(api.Table, int) []int          = table.Reach
	_ func(api.Table, int) int            = table.Share
)

// Layer 6.
var (
	_ func(api.Image) bool                = image.Right
	_ func(api.Image) ([]byte, api.Errno) = image.Put
	_ func([]byte) (api.Image, api.Errno) = image.Get
	_ func([]byte) [32]byte               = image.Digest
	_ func(api.Image, api.Image) bool     = image.Same
)

// Layer 7.
var (
	_ func(api.Record) bool                = record.Right
	_ func(api.Record) ([]byte, api.Errno) = record.Put
	_ func([]byte) (api.Record, api.Errno) = record.Get
	_ func(int) int                        = record.Blocks
	_ func(api.Stage) bool                 = record.RightStage
	_ func(api.Stage) ([]byte, api.Errno)  = record.PutStage
	_ func([]byte) (api.Stage, api.Errno)  = record.GetStage
)

// Layer 8.
var (
	_ func(api.Pdu) bool                = pdu.Right
	_ func(api.Pdu) ([]byte, api.Errno) = pdu.Put
	_ func([]byte) (api.Pdu, api.Errno) = pdu.Get
	_ func(api.Pdu) bool                = pdu.Asks
	_ func(api.Pdu, api.Pdu) bool       = pdu.Same
)

// Layer 9.
var (
	_ func(int) int                   = place.Sectors
	_ func(int, int) (int, bool)      = place.Commit
	_ func(int, int) (int, bool)      = place.Stage
	_ func(int, int, int) (int, bool) = place.Data
	_ func(int) (int, int, bool)      = place.Block
	_ func(int) (int, int)            = place.What
)

// Layer 10.
var (
	_ func(int) int              = bits.All
	_ func(int, int) bool        = bits.Has
	_ func(int, int) int         = bits.With
	_ func(int) int              = bits.Many
	_ func(int, int) []int       = bits.Missing
	_ func(int, int) (int, bool) = bits.First
	_ func(int, int) [][2]int    = bits.Runs
)

// Layer 11.
var (
	_ func(*disk.Disk, int, int) (*stage.Slot, api.Errno) = stage.Open
	_ func(*stage.Slot, int, int) api.Errno               = (*stage.Slot).Begin
	_ func(*stage.Slot, int, int, []byte) api.Errno       = (*stage.Slot).Put
	_ func(*stage.Slot) (api.Stage, bool)                 = (*stage.Slot).Stage
	_ func(*stage.Slot) ([]byte, api.Errno)               = (*stage.Slot).Bytes
	_ func(*stage.Slot) api.Errno                         = (*stage.Slot).Clear
)

// Layer 12.
var (
	_ func(*disk.Disk, int) (*commit.Log, api.Errno) = commit.Open
	_ func(*disk.Disk, int) (*commit.Log, api.Errno) = commit.Format
	_ func(*commit.Log) api.Record                   = (*commit.Log).Latest
	_ func(*commit.Log, api.Record) api.Errno        = (*commit.Log).Save
)

// Layer 13.
var (
	_ func(api.Table, int, api.Image, int) api.Errno = compat.Check
	_ func(api.Table, int, api.Image) bool           = compat.Fits
	_ func(api.Table, int) int                       = compat.Sends
	_ func(api.Table, int) int                       = compat.Receives
)

// Layer 14.
var (
	_ func(*disk.Disk, api.Table, []api.Image) (*store.Store, api.Errno) = store.Make
	_ func(*disk.Disk, api.Table) (*store.Store, api.Errno)              = store.Open
	_ func(*store.Store, int, int, int) api.Errno                        = (*store.Store).Begin
	_ func(*store.Store, int, int, int, []byte) api.Errno                = (*store.Store).Load
	_ func(*store.Store, int, int) api.Errno                             = (*store.Store).Drop
	_ func(*store.Store, int, int) api.Errno                             = (*store.Store).Seal
	_ func(*store.Store, int) (api.Image, api.Errno)                     = (*store.Store).Boot
	_ func(*store.Store, int) api.Errno                                  = (*store.Store).Confirm
	_ func(*store.Store, int) api.Record                                 = (*store.Store).Record
	_ func(*store.Store, int) (api.Image, api.Errno)                     = (*store.Store).Image
	_ func(*store.Store, int) (api.Stage, bool)                          = (*store.Store).Stage
)

// Layer 15.
var (
	_ func(api.Ins) bool                          = op.Right
	_ func(...api.Ins) ([]byte, api.Errno)        = op.Put
	_ func([]byte, int) (api.Ins, int, api.Errno) = op.At
	_ func([]byte) ([]api.Ins, api.Errno)         = op.All
	_ func(api.Ins) (string, bool)                = op.Text
	_ func(string) (api.Ins, bool)                = op.Parse
)

// Layer 16.
var (
	_ func(api.Table) (*port.Set, api.Errno)           = port.New
	_ func(*port.Set, int, int, int) (bool, api.Errno) = (*port.Set).Send
	_ func(*port.Set, int, int) (int, bool, api.Errno) = (*port.Set).Get
	_ func(*port.Set, int) []int                       = (*port.Set).Has
	_ func(*port.Set, int)                             = (*port.Set).Drain
	_ func(*port.Set) int                              = (*port.Set).Len
)

// Layer 17.
var (
	_ func(api.Image) (*vm.Machine, api.Errno) = vm.New
	_ func(*vm.Machine, vm.Ports) vm.Out       = (*vm.Machine).Tick
	_ func(*vm.Machine) api.State              = (*vm.Machine).State
	_ func(*vm.Machine) api.Image              = (*vm.Machine).Image
	_ func(*vm.Machine)                        = (*vm.Machine).Reset
)

// Layer 18.
var (
	_ func() *timer.Timers                 = timer.New
	_ func(*timer.Timers, int, int)        = (*timer.Timers).Set
	_ func(*timer.Timers, int) bool        = (*timer.Timers).Stop
	_ func(*timer.Timers, int) []int       = (*timer.Timers).Due
	_ func(*timer.Timers) (int, bool)      = (*timer.Timers).Next
	_ func(*timer.Timers, int) (int, bool) = (*timer.Timers).At
	_ func(*timer.Timers) int              = (*timer.Timers).Len
)

// Layer 19.
var (
	_ func(*store.Store) *loader.Loader                  = loader.New
	_ func(*loader.Loader, api.Pdu, int) (api.Pdu, bool) = (*loader.Loader).Hear
	_ func(*loader.Loader, int) bool                     = (*loader.Loader).Tick
	_ func(*loader.Loader) (int, int, bool)              = (*loader.Loader).Open
)

// Layer 20.
var (
	_ func() *link.Link                              = link.New
	_ func(*link.Link, int, []byte) api.Errno        = (*link.Link).Send
	_ func(*link.Link, int) ([]byte, bool)           = (*link.Link).Take
	_ func(*link.Link, int, int) api.Errno           = (*link.Link).Lose
	_ func(*link.Link, int, int) api.Errno           = (*link.Link).Twice
	_ func(*link.Link, int, int, int) api.Errno      = (*link.Link).Swap
	_ func(*link.Link, int, int, int, int) api.Errno = (*link.Link).Spoil
	_ func(*link.Link, int) int                      = (*link.Link).Len
)

// Layer 21.
var (
	_ func(int, int, []byte) *ground.Ground     = ground.New
	_ func(*ground.Ground, int) (api.Pdu, bool) = (*ground.Ground).Next
	_ func(*ground.Ground, api.Pdu)             = (*ground.Ground).Hear
	_ func(*ground.Ground) int                  = (*ground.Ground).Phase
	_ func(*ground.Ground) int                  = (*ground.Ground).Code
	_ func(*ground.Ground) int                  = (*ground.Ground).Block
)

// Layer 22.
var (
	_ func(api.Table, int) (sched.When, api.Errno)      = sched.At
	_ func(api.Table, int, int, int) ([]int, api.Errno) = sched.Starts
	_ func(api.Table, int, int) (int, bool)             = sched.Next
	_ func(api.Table, int, int, int) (int, bool)        = sched.Until
)

// Layer 23.
var (
	_ func() *part.Part                            = part.New
	_ func(*part.Part, api.Image) api.Errno        = (*part.Part).Boot
	_ func(*part.Part, vm.Ports) (part.Seen, bool) = (*part.Part).Run
	_ func(*part.Part) bool                        = (*part.Part).Runs
	_ func(*part.Part) bool                        = (*part.Part).Stands
	_ func(*part.Part) (api.Image, bool)           = (*part.Part).Image
	_ func(*part.Part) api.State                   = (*part.Part).State
	_ func(*part.Part) int                         = (*part.Part).Boots
	_ func(*part.Part)                             = (*part.Part).Stop
)

// Layer 24.
var (
	_ func(*disk.Disk, api.Table, []api.Image) (*kernel.Kernel, api.Errno) = kernel.Make
	_ func(*kernel.Kernel) (api.Event, api.Errno)                          = (*kernel.Kernel).Step
	_ func(*kernel.Kernel, uint64) api.Errno                               = (*kernel.Kernel).Power
	_ func(*kernel.Kernel, int)                                            = (*kernel.Kernel).Fuse
	_ func(*kernel.Kernel) *link.Link                                      = (*kernel.Kernel).Link
	_ func(*kernel.Kernel) int                                             = (*kernel.Kernel).Tick
	_ func(*kernel.Kernel, int) (api.Image, int, bool)                     = (*kernel.Kernel).Runs
	_ func(*kernel.Kernel, int) api.State                                  = (*kernel.Kernel).State
	_ func(*kernel.Kernel, int) api.Record                                 = (*kernel.Kernel).Record
	_ func(*kernel.Kernel, int) (api.Stage, bool)                          = (*kernel.Kernel).Stage
	_ func(*kernel.Kernel, int) []int                                      = (*kernel.Kernel).Has
	_ func(*kernel.Kernel) bool                                            = (*kernel.Kernel).Down
)

// Layer 25.
var (
	_ func(*kernel.Kernel, *run.Job) (*run.Run, api.Errno) = run.New
	_ func(*run.Run, *run.Job) api.Errno                   = (*run.Run).Load
	_ func(*run.Run, run.Deed) api.Errno                   = (*run.Run).Do
	_ func(*run.Run, []run.Deed) api.Errno                 = (*run.Run).All
	_ func(*run.Run) []api.Event                           = (*run.Run).Log
	_ func(*run.Run) int                                   = (*run.Run).Phase
	_ func(*run.Run) int                                   = (*run.Run).Code
)

// Layer 26.
var (
	_ func([]api.Event, int) []trace.Row      = trace.View
	_ func(api.Table, ...int) []int           = trace.Free
	_ func([]api.Event, int) []int            = trace.Switches
	_ func([]api.Event, int, int) int         = trace.Boots
	_ func(api.Table, []api.Event, int) []int = trace.Starts
	_ func(api.Table, int, int) int           = trace.Bound
	_ func([]trace.Row, []trace.Row) bool     = trace.Same
)

// Layer 27.
var (
	_ func() *lines.Session                   = lines.New
	_ func(*lines.Session, string) string     = (*lines.Session).Do
	_ func(*lines.Session, []string) []string = (*lines.Session).All
)

// The types whose shape the chapters tell, and the constants.
var (
	_ = [256]uint32(crc.Table{})
	_ interface {
		Send(part, channel, n int) (bool, api.Errno)
		Get(part, channel int) (int, bool, api.Errno)
	} = vm.Ports(nil)
	_ = vm.Out{Sent: []api.Sent{}, Confirm: false}
	_ = sched.When{Frame: 0, Pos: 0, Window: 0, Part: 0, Begins: false, Starts: false}
	_ = part.Seen{Sent: []api.Sent{}, Confirm: false, State: api.State{}}
	_ = run.Deed{Kind: 0, A: 0, B: 0, C: 0, D: 0, Keep: uint64(0), Bytes: []byte{}}
	_ = run.Job{Part: 0, Session: 0, Image: []byte{}}
	_ = trace.Row{Tick: 0, Booted: false, Ran: false, Version: 0, Slot: 0, Sent: []api.Sent{}, State: api.State{}}
	_ = [1]int{sha.Size - 32: 0}
	_ = map[int]int{run.DStep: 0, run.DLose: 1, run.DTwice: 2, run.DSwap: 3, run.DSpoil: 4, run.DPower: 5, run.DFuse: 6, run.DFrame: 7}
)
